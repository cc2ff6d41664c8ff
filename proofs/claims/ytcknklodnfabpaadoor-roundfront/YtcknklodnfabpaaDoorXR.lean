/- A round's block; a row of updates that the call made. -/
import Derived.Test.YtcknklodnfabpaaDoorX0
import Derived.Laws.OwnMore
namespace Go.Proofs.YtcknklodnfabpaaDoor
open Go Go.RowKit
/-- A round lies in block b. -/
def Rb (w : World) (b : Nat) (o n : Int) (a : Option Addr) (len cap : Nat) : Prop := w.heap[b]? = some (.cells #[.int .i64 o, .int .i64 n, .slice a len cap] 24 (0, 0))
section
variable {w w' : World} {b : Nat} {o n : Int} {a : Option Addr} {len cap : Nat}
theorem Rb.c0 (h : Rb w b o n a len cap) : w.cell? ⟨b, 0, none⟩ = some (.int .i64 o) := by unfold Rb at h; simp [World.cell?, h]
theorem Rb.c1 (h : Rb w b o n a len cap) : w.cell? ⟨b, 1, none⟩ = some (.int .i64 n) := by unfold Rb at h; simp [World.cell?, h]
theorem Rb.c2 (h : Rb w b o n a len cap) : w.cell? ⟨b, 2, none⟩ = some (.slice a len cap) := by unfold Rb at h; simp [World.cell?, h]
theorem Rb.f0 (h : Rb w b o n a len cap) (i : Nat) : w.frozen? ⟨b, i, none⟩ = false := by unfold Rb at h; simp [World.frozen?, h]
theorem Rb.lt (h : Rb w b o n a len cap) : b < w.heap.size := (Array.getElem?_eq_some_iff.1 h).1
theorem Rb.below {B : Nat} (h : Rb w b o n a len cap) (hb : Below B w w') (hl : b < B) : Rb w' b o n a len cap := (hb.block b hl).trans h
theorem Rb.next (h : Rb w b o n a len cap) (hb : Below w.heap.size w w') : Rb w' b o n a len cap := h.below hb h.lt
theorem Rb.alloc (h : Rb w b o n a len cap) (x : Obj) : Rb (w.alloc x) b o n a len cap := (Below.heap_alloc _ _ _ h.lt).trans h
theorem Rb.kept {row : Option Nat} (h : Rb w b o n a len cap) (hg : w.grownBy w' row) (hne : some b ≠ row) : Rb w' b o n a len cap := (hg.block b h.lt hne).trans h
theorem Rb.setnew (h : Rb w b o n a len cap) {k : Nat} (hk : b ≠ k) (i : Nat) (v : Value) : Rb (w.setCell ⟨k, i, none⟩ v) b o n a len cap := (Below.heap_setCell _ _ _ _ hk).trans h
theorem Rb.new (w : World) (o n : Int) (a : Option Addr) (len cap : Nat) : Rb (w.alloc (.cells #[.int .i64 o, .int .i64 n, .slice a len cap] 24)) w.heap.size o n a len cap := heap_alloc_new _ _
theorem Rb.set0 (h : Rb w b o n a len cap) (x : Int) : Rb (w.setCell ⟨b, 0, none⟩ (.int .i64 x)) b x n a len cap := by
  unfold Rb at *; simp [World.setCell, Array.getElem?_modify, h]
theorem Rb.set1 (h : Rb w b o n a len cap) (x : Int) : Rb (w.setCell ⟨b, 1, none⟩ (.int .i64 x)) b o x a len cap := by
  unfold Rb at *; simp [World.setCell, Array.getElem?_modify, h]
theorem Rb.set2 (h : Rb w b o n a len cap) (a' : Option Addr) (len' cap' : Nat) : Rb (w.setCell ⟨b, 2, none⟩ (.slice a' len' cap')) b o n a' len' cap' := by
  unfold Rb at *; simp [World.setCell, Array.getElem?_modify, h]
end
theorem new_at {W : World} {o : Obj} {n : Nat} (h : W.heap.size = n) : (W.alloc o).heap[n]? = some o := h ▸ heap_alloc_new W o
theorem cell_at {w : World} {b : Nat} {xs : Array Value} {t : TypeId} (h : w.heap[b]? = some (.cells xs t (0, 0))) (i : Nat) (v : Value) (hv : xs[i]? = some v) : w.cell? ⟨b, i, none⟩ = some v := by simp [World.cell?, h, hv]
theorem four {w : World} {b off : Nat} {us : List Up} (h : ∀ i, i < us.length → w.cell? ⟨b, off + i * 4, none⟩ = some (.string (us.getD i up0).1) ∧ w.cell? ⟨b, off + i * 4 + 1, none⟩ = some (.int .i64 (us.getD i up0).2.1) ∧ w.cell? ⟨b, off + i * 4 + 2, none⟩ = some (.int .i64 (us.getD i up0).2.2.1) ∧ w.cell? ⟨b, off + i * 4 + 3, none⟩ = some (.string (us.getD i up0).2.2.2)) : Us w b off us :=
  ⟨fun i hi => (h i hi).1, fun i hi => (h i hi).2.1, fun i hi => (h i hi).2.2.1, fun i hi => (h i hi).2.2.2⟩
/-- The cells of updates, one behind the other. -/
def cellsU4 (u : Up) : List Value := [.string u.1, .int .i64 u.2.1, .int .i64 u.2.2.1, .string u.2.2.2]
def flU (us : List Up) : List Value := us.flatMap cellsU4
theorem flU_snoc (us : List Up) (u : Up) : flU (us ++ [u]) = flU us ++ cellsU4 u := by simp [flU]
theorem flU_len (us : List Up) : (flU us).length = us.length * 4 := by
  induction us with
  | nil => rfl
  | cons u l ih =>
    have e : flU (u :: l) = cellsU4 u ++ flU l := rfl
    have hl : (cellsU4 u).length = 4 := rfl
    rw [e, List.length_append, ih, hl, List.length_cons]
    omega
theorem flU_get : ∀ (us : List Up) (i r : Nat), i < us.length → r < 4 → (flU us)[i * 4 + r]? = (cellsU4 (us.getD i up0))[r]?
  | [], i, r, h, _ => absurd h (by simp)
  | u :: us, 0, r, _, hr => by
    have e : flU (u :: us) = cellsU4 u ++ flU us := rfl
    rw [e, Nat.zero_mul, Nat.zero_add, List.getElem?_append_left (by show r < 4; exact hr)]
    rfl
  | u :: us, i + 1, r, h, hr => by
    have e : flU (u :: us) = cellsU4 u ++ flU us := rfl
    have hl : (cellsU4 u).length = 4 := rfl
    rw [e, List.getElem?_append_right (by rw [hl]; omega), hl, show (i + 1) * 4 + r - 4 = i * 4 + r by omega, flU_get us i r (by simpa using h) hr]
    rfl
/-- Two lists of updates are one if their cells are. -/
theorem flU_at (us : List Up) (j : Nat) (h : j < us.length * 4) : (flU us)[j]? = (cellsU4 (us.getD (j / 4) up0))[j % 4]? := by
  have := flU_get us (j / 4) (j % 4) (by omega) (by omega)
  rw [show j / 4 * 4 + j % 4 = j by omega] at this
  exact this
theorem infoUz : (Tryd.prog.info? 45).map (fun i => (i.zero, i.size, i.bytes)) = some (some (.agg #[.string ⟨#[]⟩, .int .i64 0, .int .i64 0, .string ⟨#[]⟩]), 4, 48) := by kernel_rfl
/-- A row of updates that the call made: it lies in block g, whole. -/
def Rw (w : World) (g : Nat) (us : List Up) : Prop := w.heap[g]? = some (.cells (flU us).toArray 45 (0, 0))
section
variable {w w' : World} {g : Nat} {us : List Up}
theorem Rw.lt (h : Rw w g us) : g < w.heap.size := (Array.getElem?_eq_some_iff.1 h).1
theorem Rw.kept {row : Option Nat} (h : Rw w g us) (hg : w.grownBy w' row) (hne : some g ≠ row) : Rw w' g us := (hg.block g h.lt hne).trans h
theorem Rw.next (h : Rw w g us) (hb : Below w.heap.size w w') : Rw w' g us := (hb.block g h.lt).trans h
theorem Rw.alloc (h : Rw w g us) (x : Obj) : Rw (w.alloc x) g us := (Below.heap_alloc _ _ _ h.lt).trans h
theorem Rw.setnew (h : Rw w g us) {k : Nat} (hk : g ≠ k) (i : Nat) (v : Value) : Rw (w.setCell ⟨k, i, none⟩ v) g us := (Below.heap_setCell _ _ _ _ hk).trans h
theorem Rw.f0 (h : Rw w g us) (i : Nat) : w.frozen? ⟨g, i, none⟩ = false := by unfold Rw at h; simp [World.frozen?, h]
theorem Rw.is (h : Rw w g us) : IsUs w (some ⟨g, 0, none⟩) us.length us := by
  refine ⟨rfl, fun _ => ⟨g, 0, rfl, four fun i hi => ?_⟩⟩
  have hc : ∀ r, r < 4 → w.cell? ⟨g, 0 + i * 4 + r, none⟩ = (cellsU4 (us.getD i up0))[r]? := fun r hr => by
    have h1 := flU_get us i r hi hr
    obtain ⟨v, hv⟩ : ∃ v, (cellsU4 (us.getD i up0))[r]? = some v := ⟨_, List.getElem?_eq_getElem (show r < (cellsU4 (us.getD i up0)).length from hr)⟩
    rw [hv] at h1 ⊢
    rw [Nat.zero_add]
    exact cell_at h (i * 4 + r) v (by simpa using h1)
  exact ⟨hc 0 (by omega), hc 1 (by omega), hc 2 (by omega), hc 3 (by omega)⟩
theorem Rw.row (h : Rw w g us) (k : Nat) (hk : k < us.length) : w.cell? ⟨g, k * 4, none⟩ = some (.string (us.getD k up0).1) ∧ w.cell? ⟨g, k * 4 + 1, none⟩ = some (.int .i64 (us.getD k up0).2.1) ∧ w.cell? ⟨g, k * 4 + 2, none⟩ = some (.int .i64 (us.getD k up0).2.2.1) ∧ w.cell? ⟨g, k * 4 + 3, none⟩ = some (.string (us.getD k up0).2.2.2) := by
  obtain ⟨b, off, e, hf⟩ := h.is.lies (by omega)
  simp only [Option.some.injEq, Addr.mk.injEq, and_true] at e
  obtain ⟨rfl, rfl⟩ := e
  have h0 := hf.key k hk
  have h1 := hf.k k hk
  have h2 := hf.n k hk
  have h3 := hf.t k hk
  rw [Nat.zero_add] at h0 h1 h2 h3
  exact ⟨h0, h1, h2, h3⟩
theorem flU_set (us : List Up) (k : Nat) (hk : k < us.length) (u : Up) : (((((flU us).toArray.set! (k * 4) (.string u.1)).set! (k * 4 + 1) (.int .i64 u.2.1)).set! (k * 4 + 2) (.int .i64 u.2.2.1)).set! (k * 4 + 3) (.string u.2.2.2)) = (flU (us.set k u)).toArray := by
  apply Array.ext'
  simp only [Array.set!_eq_setIfInBounds, Array.toList_setIfInBounds]
  apply List.ext_getElem?
  intro j
  have hl := flU_len us
  have hl' := flU_len (us.set k u)
  rw [List.length_set] at hl'
  by_cases hj : j < us.length * 4
  · rw [flU_at _ j (by rw [List.length_set]; exact hj)]
    have hu := flU_at us j hj
    by_cases hjk : j / 4 = k
    · rw [hjk, List.getD_eq_getElem?_getD, List.getElem?_set_self hk]
      simp only [Option.getD_some]
      rcases (show j % 4 = 0 ∨ j % 4 = 1 ∨ j % 4 = 2 ∨ j % 4 = 3 by omega) with h0 | h0 | h0 | h0
      · obtain rfl : j = k * 4 := by omega
        rw [h0, List.getElem?_set_ne (by omega), List.getElem?_set_ne (by omega), List.getElem?_set_ne (by omega), List.getElem?_set_self (by simpa using by omega)]
        rfl
      · obtain rfl : j = k * 4 + 1 := by omega
        rw [h0, List.getElem?_set_ne (by omega), List.getElem?_set_ne (by omega), List.getElem?_set_self (by simp; omega)]
        rfl
      · obtain rfl : j = k * 4 + 2 := by omega
        rw [h0, List.getElem?_set_ne (by omega), List.getElem?_set_self (by simp; omega)]
        rfl
      · obtain rfl : j = k * 4 + 3 := by omega
        rw [h0, List.getElem?_set_self (by simp; omega)]
        rfl
    · rw [List.getElem?_set_ne (by omega), List.getElem?_set_ne (by omega), List.getElem?_set_ne (by omega), List.getElem?_set_ne (by omega)]
      rw [hu, List.getD_eq_getElem?_getD, List.getD_eq_getElem?_getD, List.getElem?_set_ne (fun e => hjk e.symm)]
  · rw [List.getElem?_eq_none (by simp only [List.length_set]; show (flU us).length ≤ j; omega), List.getElem?_eq_none (by omega)]
theorem Rw.set4 (h : Rw w g us) (k : Nat) (hk : k < us.length) (u : Up) : Rw ((((w.setCell ⟨g, k * 4, none⟩ (.string u.1)).setCell ⟨g, k * 4 + 1, none⟩ (.int .i64 u.2.1)).setCell ⟨g, k * 4 + 2, none⟩ (.int .i64 u.2.2.1)).setCell ⟨g, k * 4 + 3, none⟩ (.string u.2.2.2)) g (us.set k u) := by
  unfold Rw at *
  rw [← flU_set us k hk u]
  simp [World.setCell, Array.getElem?_modify, h]
/-- What 'make' makes. -/
theorem Rw.made {base n : Nat} (h : w'.ownsRow base 45 4 (.slice (some ⟨g, 0, none⟩) n n) n (madeCells (Value.agg #[.string ⟨#[]⟩, .int .i64 0, .int .i64 0, .string ⟨#[]⟩]).cells (n * 4)).toList) : Rw w' g (List.replicate n up0) := by
  rcases h.2 with ⟨e, _⟩ | ⟨g', cap, cur, e, _, hh, _, _, hs, ht⟩
  · cases e
  · simp only [Value.slice.injEq, Option.some.injEq, Addr.mk.injEq, and_true] at e
    obtain ⟨rfl, _, rfl⟩ := e
    unfold Rw
    rw [hh]
    have e1 : cur.toList.take (n * 4) = cur.toList := List.take_of_length_le (by rw [Array.length_toList]; omega)
    rw [e1] at ht
    have e2 : cur = (flU (List.replicate n up0)).toArray := by
      apply Array.ext'
      rw [ht]
      show _ = flU (List.replicate n up0)
      apply List.ext_getElem?
      intro j
      by_cases hj : j < n * 4
      · rw [flU_at _ j (by rw [List.length_replicate]; exact hj), List.getD_eq_getElem?_getD, List.getElem?_replicate, if_pos (by omega)]
        simp only [Option.getD_some, madeCells, Array.toList_map, List.getElem?_map, Array.toList_range, List.getElem?_range hj, Option.map_some]
        rcases (show j % 4 = 0 ∨ j % 4 = 1 ∨ j % 4 = 2 ∨ j % 4 = 3 by omega) with h0 | h0 | h0 | h0 <;> (rw [show (Value.agg #[.string ⟨#[]⟩, .int .i64 0, .int .i64 0, .string ⟨#[]⟩]).cells.size = 4 from rfl, h0]; rfl)
      · rw [List.getElem?_eq_none (by simp [madeCells]; omega), List.getElem?_eq_none (by rw [flU_len, List.length_replicate]; omega)]
    rw [e2]
end
theorem set_step (xs : List Up) (n k : Nat) (u : Up) (hx : xs.length = k) (hk : k < n) : (xs ++ List.replicate (n - k) up0).set k u = (xs ++ [u]) ++ List.replicate (n - (k + 1)) up0 := by
  subst hx
  rw [List.set_append_right _ _ (Nat.le_refl _), Nat.sub_self]
  obtain ⟨m, hm⟩ : ∃ m, n - xs.length = m + 1 := ⟨n - xs.length - 1, by omega⟩
  rw [hm, List.replicate_succ, show n - (xs.length + 1) = m by omega, List.set_cons_zero, List.append_assoc]
  rfl
/-- 'for i, u := range': the cells of a row that may be the call's own or not. -/
theorem isUs_kept {w w' : World} {a : Option Addr} {len : Nat} {us : List Up} {row : Option Nat} (h : IsUs w a len us) (hg : w.grownBy w' row) (hne : ∀ b off, a = some ⟨b, off, none⟩ → some b ≠ row) : IsUs w' a len us := by
  refine ⟨h.size, fun h0 => ?_⟩
  obtain ⟨b, off, e, hf⟩ := h.lies h0
  have hs := h.size
  have hl := hf.lt (by omega)
  have hh : ∀ i, w'.cell? ⟨b, i, none⟩ = w.cell? ⟨b, i, none⟩ := fun i => World.cell?_of_block (hg.block b hl (hne b off e))
  exact ⟨b, off, e, four fun i hi => ⟨(hh _).trans (hf.key i hi), (hh _).trans (hf.k i hi), (hh _).trans (hf.n i hi), (hh _).trans (hf.t i hi)⟩⟩
end Go.Proofs.YtcknklodnfabpaaDoor
