import Derived.Test.YtbbgibekplfacaaDoorI0a
import Derived.Test.YtbbgibekplfacaaDoorB2
import Derived.Test.YtbbgibekplfacaaDoorB0
/- Blocks that a call makes, beside readers. -/
namespace Go.Proofs.YtbbgibekplfacaaDoor.X
open Go Go.RowKit
theorem grown_alloc (w : World) (o : Obj) (row : Option Nat) : w.grownBy (w.alloc o) row := ⟨rfl, rfl, rfl, by simp, fun _ hi _ => Below.heap_alloc _ _ _ hi⟩
theorem grown_setnew {a c : World} {row : Option Nat} (h : a.grownBy c row) {k i : Nat} (hk : a.heap.size ≤ k) (v : Value) : a.grownBy (c.setCell ⟨k, i, none⟩ v) row :=
  ⟨h.os, h.tape, h.output, by have := h.size; simp [World.setCell]; omega, fun j hj hr => (Below.heap_setCell _ _ _ _ (show j ≠ k by omega)).trans (h.block j hj hr)⟩
theorem grown_set4 {a c : World} {row : Option Nat} (h : a.grownBy c row) {k : Nat} (hk : a.heap.size ≤ k) (v0 v1 v2 v3 : Value) : a.grownBy ((((c.setCell ⟨k, 0, none⟩ v0).setCell ⟨k, 1, none⟩ v1).setCell ⟨k, 2, none⟩ v2).setCell ⟨k, 3, none⟩ v3) row :=
  grown_setnew (grown_setnew (grown_setnew (grown_setnew h hk _) hk _) hk _) hk _
theorem Wd.setnew {w : World} (h : Wd w) {k : Nat} (hk : 0 < k) (i : Nat) (v : Value) : Wd (w.setCell ⟨k, i, none⟩ v) :=
  h.grown (row := some k) (grown_set w k i v) (pos0 hk)
theorem Wd.alloc {w : World} (h : Wd w) (o : Obj) : Wd (w.alloc o) := h.grown (grown_alloc w o none) (by simp)
/-- Two new updates' blocks, a reader's own one apart. -/
theorem two_new (w : World) : Ub ((w.alloc (.cells #[.string ⟨#[]⟩, .int .i64 0, .int .i64 0, .string ⟨#[]⟩] 32)).alloc (.cells #[.string ⟨#[]⟩, .int .i64 0, .int .i64 0, .string ⟨#[]⟩] 32)) w.heap.size up0 ∧ Ub ((w.alloc (.cells #[.string ⟨#[]⟩, .int .i64 0, .int .i64 0, .string ⟨#[]⟩] 32)).alloc (.cells #[.string ⟨#[]⟩, .int .i64 0, .int .i64 0, .string ⟨#[]⟩] 32)) (w.heap.size + 1) up0 := by
  refine ⟨(Ub.new w up0).alloc _, ?_⟩
  have h := Ub.new (w.alloc (.cells #[.string ⟨#[]⟩, .int .i64 0, .int .i64 0, .string ⟨#[]⟩] 32)) up0
  have e : (w.alloc (.cells #[.string ⟨#[]⟩, .int .i64 0, .int .i64 0, .string ⟨#[]⟩] 32)).heap.size = w.heap.size + 1 := by simp
  rw [e] at h
  exact h
end Go.Proofs.YtbbgibekplfacaaDoor.X
/- Plain mathematics: an update's bytes; what is read, where, and with which error. -/
namespace Go.Proofs.YtbbgibekplfacaaDoor.X
open Go
/-- What Read makes: the update, the place behind it, the error. -/
def updR (B : ByteArray) (At : Nat) (E : Int) : Up × Nat × Int :=
  if numE B At E 5 ≠ 0 then (up0, rawA B At E, numE B At E 5)
  else if numV B At E 5 = 0 then (up0, rawA B At E, 5)
  else if txtE B (rawA B At E) 0 16 ≠ 0 then (up0, txtA B (rawA B At E) 0 16, txtE B (rawA B At E) 0 16)
  else if (txtV B (rawA B At E) 0 16).size = 0 then (up0, txtA B (rawA B At E) 0 16, 1)
  else if numV B At E 5 = 1 ∨ numV B At E 5 = 3 then
    (if rawE B (txtA B (rawA B At E) 0 16) 0 ≠ 0 then (up0, rawA B (txtA B (rawA B At E) 0 16) 0, rawE B (txtA B (rawA B At E) 0 16) 0)
     else ((txtV B (rawA B At E) 0 16, numV B At E 5, sgnV B (txtA B (rawA B At E) 0 16) 0, ⟨#[]⟩), rawA B (txtA B (rawA B At E) 0 16) 0, 0))
  else if numV B At E 5 = 2 ∨ numV B At E 5 = 4 then
    (if txtE B (txtA B (rawA B At E) 0 16) 0 32 ≠ 0 then (up0, txtA B (txtA B (rawA B At E) 0 16) 0 32, txtE B (txtA B (rawA B At E) 0 16) 0 32)
     else ((txtV B (rawA B At E) 0 16, numV B At E 5, 0, txtV B (txtA B (rawA B At E) 0 16) 0 32), txtA B (txtA B (rawA B At E) 0 16) 0 32, 0))
  else ((txtV B (rawA B At E) 0 16, numV B At E 5, 0, ⟨#[]⟩), txtA B (rawA B At E) 0 16, 0)
/-- The ways of Read. -/
inductive UpdC (B : ByteArray) (At : Nat) (E : Int) : Up × Nat × Int → Prop
  | a (h1 : numE B At E 5 ≠ 0) : UpdC B At E (up0, rawA B At E, numE B At E 5)
  | b (h1 : numE B At E 5 = 0) (h2 : numV B At E 5 = 0) : UpdC B At E (up0, rawA B At E, 5)
  | c (A1 : Nat) (e1 : rawA B At E = A1) (k : Int) (hk : 1 ≤ k ∧ k ≤ 5) (h1 : numE B At E 5 = 0) (h2 : numV B At E 5 = k) (h3 : txtE B A1 0 16 ≠ 0) : UpdC B At E (up0, txtA B A1 0 16, txtE B A1 0 16)
  | d (A1 : Nat) (e1 : rawA B At E = A1) (k : Int) (hk : 1 ≤ k ∧ k ≤ 5) (h1 : numE B At E 5 = 0) (h2 : numV B At E 5 = k) (h3 : txtE B A1 0 16 = 0) (h4 : txtV B A1 0 16 = ⟨#[]⟩) : UpdC B At E (up0, txtA B A1 0 16, 1)
  | e (A1 A2 : Nat) (e1 : rawA B At E = A1) (e2 : txtA B A1 0 16 = A2) (k : Int) (hk : k = 1 ∨ k = 3) (h1 : numE B At E 5 = 0) (h2 : numV B At E 5 = k) (h3 : txtE B A1 0 16 = 0) (y : ByteArray) (h4 : txtV B A1 0 16 = y) (hy : 0 < y.size) (h5 : rawE B A2 0 ≠ 0) : UpdC B At E (up0, rawA B A2 0, rawE B A2 0)
  | f (A1 A2 : Nat) (e1 : rawA B At E = A1) (e2 : txtA B A1 0 16 = A2) (k : Int) (hk : k = 1 ∨ k = 3) (h1 : numE B At E 5 = 0) (h2 : numV B At E 5 = k) (h3 : txtE B A1 0 16 = 0) (y : ByteArray) (h4 : txtV B A1 0 16 = y) (hy : 0 < y.size) (h5 : rawE B A2 0 = 0) : UpdC B At E ((y, k, sgnV B A2 0, ⟨#[]⟩), rawA B A2 0, 0)
  | g (A1 A2 : Nat) (e1 : rawA B At E = A1) (e2 : txtA B A1 0 16 = A2) (k : Int) (hk : k = 2 ∨ k = 4) (h1 : numE B At E 5 = 0) (h2 : numV B At E 5 = k) (h3 : txtE B A1 0 16 = 0) (y : ByteArray) (h4 : txtV B A1 0 16 = y) (hy : 0 < y.size) (h5 : txtE B A2 0 32 ≠ 0) : UpdC B At E (up0, txtA B A2 0 32, txtE B A2 0 32)
  | h (A1 A2 : Nat) (e1 : rawA B At E = A1) (e2 : txtA B A1 0 16 = A2) (k : Int) (hk : k = 2 ∨ k = 4) (h1 : numE B At E 5 = 0) (h2 : numV B At E 5 = k) (h3 : txtE B A1 0 16 = 0) (y : ByteArray) (h4 : txtV B A1 0 16 = y) (hy : 0 < y.size) (h5 : txtE B A2 0 32 = 0) : UpdC B At E ((y, k, 0, txtV B A2 0 32), txtA B A2 0 32, 0)
  | i (A1 A2 : Nat) (e1 : rawA B At E = A1) (e2 : txtA B A1 0 16 = A2) (h1 : numE B At E 5 = 0) (h2 : numV B At E 5 = 5) (h3 : txtE B A1 0 16 = 0) (y : ByteArray) (h4 : txtV B A1 0 16 = y) (hy : 0 < y.size) : UpdC B At E ((y, 5, 0, ⟨#[]⟩), A2, 0)
theorem bytes0 (s : ByteArray) (h : s.size = 0) : s = ⟨#[]⟩ := by
  apply eq_of_byt
  · rw [h]; rfl
  · intro i hi; omega
theorem bd5 : bd 5 = 5 := by decide
theorem updC (B : ByteArray) (At : Nat) (E : Int) (hA : At ≤ B.size) : UpdC B At E (updR B At E) := by
  have hv := numV_bd B At E 5 hA
  have hle : numE B At E 5 = 0 → numV B At E 5 ≤ 5 := by
    intro h0
    have := bd5
    rcases num3 B At E 5 hA with ⟨_, _, e, _⟩ | ⟨_, _, e, _⟩ | ⟨_, h2, e, _⟩ <;> omega
  unfold updR
  split
  · rename_i h1; exact .a h1
  rename_i h1
  have h1 : numE B At E 5 = 0 := by omega
  have hle := hle h1
  split
  · rename_i h2; exact .b h1 h2
  rename_i h2
  split
  · rename_i h3; exact .c _ rfl _ ⟨by omega, hle⟩ h1 rfl h3
  rename_i h3
  have h3 : txtE B (rawA B At E) 0 16 = 0 := by omega
  split
  · rename_i h4; exact .d _ rfl _ ⟨by omega, hle⟩ h1 rfl h3 (bytes0 _ h4)
  rename_i h4
  split
  · rename_i hk
    split
    · rename_i h5; exact .e _ _ rfl rfl _ hk h1 rfl h3 _ rfl (by omega) h5
    · rename_i h5; exact .f _ _ rfl rfl _ hk h1 rfl h3 _ rfl (by omega) (by omega)
  rename_i hk
  split
  · rename_i hk
    split
    · rename_i h5; exact .g _ _ rfl rfl _ hk h1 rfl h3 _ rfl (by omega) h5
    · rename_i h5; exact .h _ _ rfl rfl _ hk h1 rfl h3 _ rfl (by omega) (by omega)
  rename_i hk2
  have h5 : numV B At E 5 = 5 := by omega
  rw [h5]
  exact .i _ _ rfl rfl h1 h5 h3 _ rfl (by omega)
theorem updR_of {B : ByteArray} {At : Nat} {E : Int} {r : Up × Nat × Int} (h : UpdC B At E r) : updR B At E = r := by
  cases h with
  | a h1 => simp [updR, h1]
  | b h1 h2 => simp [updR, h1, h2]
  | c A1 e1 k hk h1 h2 h3 => subst e1 h2; have e : ¬ numV B At E 5 = 0 := by omega
                             simp [updR, h1, h3, e]
  | d A1 e1 k hk h1 h2 h3 h4 => subst e1 h2; have e : ¬ numV B At E 5 = 0 := by omega
                                have z : (⟨#[]⟩ : ByteArray).size = 0 := rfl
                                simp [updR, h1, h3, h4, e, z]
  | e A1 A2 e1 e2 k hk h1 h2 h3 y h4 hy h5 => subst e1 e2 h2 h4; have e : ¬ numV B At E 5 = 0 := by omega
                                              have z : ¬ (txtV B (rawA B At E) 0 16).size = 0 := by omega
                                              simp [updR, h1, h3, h5, e, z, hk]
  | f A1 A2 e1 e2 k hk h1 h2 h3 y h4 hy h5 => subst e1 e2 h2 h4; have e : ¬ numV B At E 5 = 0 := by omega
                                              have z : ¬ (txtV B (rawA B At E) 0 16).size = 0 := by omega
                                              simp [updR, h1, h3, h5, e, z, hk]
  | g A1 A2 e1 e2 k hk h1 h2 h3 y h4 hy h5 => subst e1 e2 h2 h4; have e : ¬ numV B At E 5 = 0 := by omega
                                              have z : ¬ (txtV B (rawA B At E) 0 16).size = 0 := by omega
                                              have hn : ¬ (numV B At E 5 = 1 ∨ numV B At E 5 = 3) := by omega
                                              simp [updR, h1, h3, h5, e, z, hk, hn]
  | h A1 A2 e1 e2 k hk h1 h2 h3 y h4 hy h5 => subst e1 e2 h2 h4; have e : ¬ numV B At E 5 = 0 := by omega
                                              have z : ¬ (txtV B (rawA B At E) 0 16).size = 0 := by omega
                                              have hn : ¬ (numV B At E 5 = 1 ∨ numV B At E 5 = 3) := by omega
                                              simp [updR, h1, h3, h5, e, z, hk, hn]
  | i A1 A2 e1 e2 h1 h2 h3 y h4 hy => subst e1 e2 h4; have z : ¬ (txtV B (rawA B At E) 0 16).size = 0 := by omega
                                      simp [updR, h1, h2, h3, z]
theorem dead_num (B : ByteArray) (At : Nat) (E m : Int) (h : E ≠ 0) : numV B At E m = 0 ∧ numE B At E m = E ∧ rawA B At E = At := by
  obtain ⟨a, b, c⟩ := raw_dead B At E h
  refine ⟨?_, ?_, b⟩
  · unfold numV; rw [if_pos (by rw [c]; exact h)]
  · unfold numE; rw [if_pos (by rw [c]; exact h), c]
theorem dead_txt (B : ByteArray) (At : Nat) (E m : Int) (h : E ≠ 0) : txtV B At E m = ⟨#[]⟩ ∧ txtE B At E m = E := by
  obtain ⟨a, b, c⟩ := dead_num B At E m h
  have e : txtE B At E m = E := by unfold txtE; rw [if_pos (by rw [b]; exact h), b]
  exact ⟨by unfold txtV; rw [if_pos (by rw [e]; exact h)], e⟩
theorem dead_sgn (B : ByteArray) (At : Nat) (E : Int) (h : E ≠ 0) : sgnV B At E = 0 ∧ rawE B At E = E := by
  obtain ⟨a, b, c⟩ := raw_dead B At E h
  exact ⟨by unfold sgnV; rw [if_pos (by rw [c]; exact h)], c⟩
theorem numE_zero (B : ByteArray) (At : Nat) (E m : Int) (hA : At ≤ B.size) (h : numE B At E m ≠ 0) : numV B At E m = 0 := by
  rcases num3 B At E m hA with ⟨_, _, e, _⟩ | ⟨_, _, e, _⟩ | ⟨_, _, _, e⟩
  · exact e
  · exact e
  · exact absurd e h
theorem txtE_zero (B : ByteArray) (At : Nat) (E m : Int) (hA : At ≤ B.size) (h : txtE B At E m ≠ 0) : txtV B At E m = ⟨#[]⟩ := by
  rcases txt3 B At E m hA with ⟨_, _, _, _, e⟩ | ⟨_, _, _, _, e⟩ | ⟨_, _, _, _, e, _⟩
  · exact e
  · exact e
  · exact absurd e h
theorem failE_dead (E e : Int) (h : E ≠ 0) : failE E e = E := if_pos h
theorem failE_live (e : Int) : failE 0 e = e := if_neg (by simp)
theorem updA_le (B : ByteArray) (At : Nat) (E : Int) (hA : At ≤ B.size) : (updR B At E).2.1 ≤ B.size := by
  have h1 := rawA_le B At E hA
  have hc := updC B At E hA
  generalize updR B At E = r at *
  cases hc with
  | a => exact h1
  | b => exact h1
  | c A1 e1 => subst e1; exact txtA_le _ _ _ _ h1
  | d A1 e1 => subst e1; exact txtA_le _ _ _ _ h1
  | e A1 A2 e1 e2 => subst e1 e2; exact rawA_le B (txtA B (rawA B At E) 0 16) 0 (txtA_le B _ 0 16 h1)
  | f A1 A2 e1 e2 => subst e1 e2; exact rawA_le B (txtA B (rawA B At E) 0 16) 0 (txtA_le B _ 0 16 h1)
  | g A1 A2 e1 e2 => subst e1 e2; exact txtA_le B (txtA B (rawA B At E) 0 16) 0 32 (txtA_le B _ 0 16 h1)
  | h A1 A2 e1 e2 => subst e1 e2; exact txtA_le B (txtA B (rawA B At E) 0 16) 0 32 (txtA_le B _ 0 16 h1)
  | i A1 A2 e1 e2 => subst e1 e2; exact txtA_le _ _ _ _ h1
end Go.Proofs.YtbbgibekplfacaaDoor.X
