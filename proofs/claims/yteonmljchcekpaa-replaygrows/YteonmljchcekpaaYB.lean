/- What the laws share. -/
import Derived.Test.YteonmljchcekpaaY9
namespace Go.Proofs.Yteonmljchcekpaa
open Go Go.RowKit Go.Maps Go.Sort
set_option maxRecDepth 20000
theorem wpList_appU0 {ops : Array Oper} {rest : List Oper} {o : Oper} {a : Act} {Q : Exit → Act → World → Prop} {w : World} (hgd : o.guard = none) (s x : Operand)
    (ho : o.op = .call { callee := .builtin .append, args := #[s, x], argTypes := #[22, 22] })
    (hs : a.eval s = .slice (some ⟨w.heap.size, 0, none⟩) 0 0) (ax : Option Addr) (len cx : Nat) (hx : a.eval x = .slice ax len cx) (us : List Up) (hu : IsUs w ax len us) (hc : len ≤ cx) (hn : ax = none → cx = 0) (hb : len ≤ 1000000)
    (h : ∀ a' c' w', RowU w.heap.size w' (.slice a' len c') us → Below w.heap.size w w' → wpList Try.prog ops Q rest (a.put o.dst (.slice a' len c')) w') :
    wpList Try.prog ops Q (o :: rest) a (w.alloc (.cells #[] 42)) := by
  refine wpList_appU hgd s x ho w.heap.size _ [] hs (rowU_new w) ax len cx hx us (isUs_below hu (Joins.below_alloc1 _ _)) hc hn (by simpa using hb) (by simp) ?_
  intro a' c' w' h1 h2 _
  simp only [List.length_nil, Nat.zero_add, List.nil_append] at h1 ⊢
  exact h a' c' w' h1 (belU (rowU_new w) (Joins.below_alloc1 _ _) h2 (by simp))
theorem wpList_appR0 {ops : Array Oper} {rest : List Oper} {o : Oper} {a : Act} {Q : Exit → Act → World → Prop} {w : World} (hgd : o.guard = none) (s x : Operand)
    (ho : o.op = .call { callee := .builtin .append, args := #[s, x], argTypes := #[23, 23] })
    (hs : a.eval s = .slice (some ⟨w.heap.size, 0, none⟩) 0 0) (ax : Option Addr) (len cx : Nat) (hx : a.eval x = .slice ax len cx) (us : List Rn) (hu : RsAt w ax len us) (hc : len ≤ cx) (hn : ax = none → cx = 0) (hb : len ≤ 1000000)
    (h : ∀ a' c' w', RowR w.heap.size w' (.slice a' len c') us → Below w.heap.size w w' → wpList Try.prog ops Q rest (a.put o.dst (.slice a' len c')) w') :
    wpList Try.prog ops Q (o :: rest) a (w.alloc (.cells #[] 45)) := by
  refine wpList_appR hgd s x ho w.heap.size _ [] hs (rowR_new w) ax len cx hx us (rsAt_below hu (Joins.below_alloc1 _ _)) hc hn (by simpa using hb) (by simp) ?_
  intro a' c' w' h1 h2 _
  simp only [List.length_nil, Nat.zero_add, List.nil_append] at h1 ⊢
  exact h a' c' w' h1 (belR (rowR_new w) (Joins.below_alloc1 _ _) h2 (by simp))
theorem g8_pl {us : List Up} {rs : List Rn} (h : ¬ g8 us rs) : Pl us rs := by
  obtain ⟨h1, h2⟩ := g8_us h
  obtain ⟨h3, h4⟩ := g8_rs h
  have h5 := flatR_len rs 20 fun r hr => (h4 r hr).1
  refine ⟨fun u hu => ?_, ?_, by omega⟩
  · rcases List.mem_append.1 hu with hu | hu
    · obtain ⟨r, hr, hx⟩ := List.mem_flatMap.1 hu
      have := (h4 r hr).2 u hx
      exact ⟨by omega, this.2⟩
    · have := h2 u hu
      exact ⟨by omega, this.2⟩
  · rw [List.length_append]; omega
theorem each_below {w w' : World} {a : Option Addr} {len : Nat} {rs : List Rn} (h : IsRs w a len rs) (hb : Below w.heap.size w w') : ∀ r ∈ rs, Ru w' r := fun r hr => (h.each r hr).below hb
theorem Below.step {w w1 w2 : World} (h : Below w.heap.size w w1) (o : Obj) (hb : Below (w1.alloc o).heap.size (w1.alloc o) w2) : Below w.heap.size w w2 := Below.next (h.alloc h.size o) hb
end Go.Proofs.Yteonmljchcekpaa
