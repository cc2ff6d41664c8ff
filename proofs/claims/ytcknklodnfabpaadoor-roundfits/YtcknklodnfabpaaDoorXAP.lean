/- append([]api.Update{}, l...). -/
import Derived.Test.YtcknklodnfabpaaDoorXD0
import Derived.Laws.AppendOwnNone
namespace Go.Proofs.YtcknklodnfabpaaDoor
open Go Go.RowKit
theorem isUs_news {w : World} {ad : Addr} {len : Nat} {us : List Up} (h : IsUs w (some ad) len us) (x : Obj) : ∀ j v, (flU us)[j]? = some v → (w.alloc x).cell? (ad.add j) = some v := by
  intro j v hj
  have hs := h.size
  have hjl : j < us.length * 4 := by
    have := (List.getElem?_eq_some_iff.1 hj).1
    rw [flU_len] at this
    exact this
  obtain ⟨b, off, e, hf⟩ := h.lies (by omega)
  simp only [Option.some.injEq] at e
  subst e
  have hl := hf.lt (by omega)
  rw [flU_at us j hjl] at hj
  have ea : (⟨b, off, none⟩ : Addr).add j = ⟨b, off + j / 4 * 4 + j % 4, none⟩ := by rw [Go.WideShapes.add_plain]; congr 1; omega
  rw [ea, World.cell?_alloc_past _ _ _ hl]
  have hi : j / 4 < us.length := by omega
  rcases (show j % 4 = 0 ∨ j % 4 = 1 ∨ j % 4 = 2 ∨ j % 4 = 3 by omega) with h0 | h0 | h0 | h0
  · rw [h0] at hj ⊢; rw [← hj]; exact hf.key _ hi
  · rw [h0] at hj ⊢; rw [← hj]; exact hf.k _ hi
  · rw [h0] at hj ⊢; rw [← hj]; exact hf.n _ hi
  · rw [h0] at hj ⊢; rw [← hj]; exact hf.t _ hi
theorem flU_one (us : List Up) : ∀ v ∈ flU us, v.oneCell' = true := by
  intro v hv
  simp only [flU, List.mem_flatMap] at hv
  obtain ⟨u, _, hu⟩ := hv
  exact news_one u v hu
theorem wpList_app0 {ops : Array Oper} {rest : List Oper} {o : Oper} {a : Act} {Q : Exit → Act → World → Prop} (wr : World) (hgd : o.guard = none) (s x : Operand)
    (ho : o.op = .call { callee := .builtin .append, args := #[s, x], argTypes := #[22, 22] })
    (hs : a.eval s = .slice (some ⟨wr.heap.size, 0, none⟩) 0 0) (ax : Option Addr) (len cx : Nat) (hx : a.eval x = .slice ax len cx) (us : List Up) (hu : IsUs wr ax len us) (hcap : len ≤ cx) (hn : ax = none → cx = 0) (hl : len ≤ 1000)
    (h : ∀ a' c' w', IsUs w' a' len us → Below wr.heap.size wr w' → (∀ b off, a' = some ⟨b, off, none⟩ → wr.heap.size ≤ b) → wpList Tryd.prog ops Q rest (a.put o.dst (.slice a' len c')) w') :
    wpList Tryd.prog ops Q (o :: rest) a (wr.alloc (.cells #[] 45)) := by
  obtain ⟨i0, hi, hz0, hz1, hz2⟩ := info_parts infoUz
  have hsz := hu.size
  have hlit := World.ownsRow_lit (base := wr.heap.size) (e := 45) (size := 4) wr #[] 0 (Nat.le_refl _) (Nat.zero_le _) rfl
  cases ax with
  | none =>
    obtain rfl := hn rfl
    obtain rfl : len = 0 := by omega
    refine wpList_append_own_none hgd s x 22 ho wr.heap.size 45 i0 4 Tryd.underlying22 hi _ 0 [] hs hlit hx ?_
    refine h _ _ _ ⟨hsz, fun h => absurd h (Nat.lt_irrefl _)⟩ (Joins.below_alloc1 wr _) ?_
    intro b off e
    simp only [Option.some.injEq, Addr.mk.injEq] at e
    exact Nat.le_of_eq e.1
  | some ad =>
    refine wpList_append_own _ hgd s x 22 ho wr.heap.size 45 i0 _ 4 48 Tryd.underlying22 hi hz0 hz1 hz2 rfl (by decide) _ 0 [] hs hlit ad len cx (flU us) hx (by rw [flU_len, hsz]) (isUs_news hu _) (flU_one us) (by unfold maxLen; omega) (by omega) (by simp) ?_
    intro v' w' hown hgr _
    rw [Nat.zero_add, List.nil_append] at hown
    have hr : RowU wr.heap.size w' v' us := by unfold RowU; rw [hsz]; exact hown
    obtain ⟨a', c', rfl, hu'⟩ := hr.is
    rw [hsz] at hu' hr ⊢
    refine h a' c' w' hu' ((Joins.below_alloc1 wr _).grown hgr (by simp) (fun k e => by simp [Value.ownBlock] at e; omega)) ?_
    intro b off e
    subst e
    exact (World.ownsRow.lt hr b rfl).1
end Go.Proofs.YtcknklodnfabpaaDoor
