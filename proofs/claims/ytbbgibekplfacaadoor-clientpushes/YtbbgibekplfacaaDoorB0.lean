import Derived.Test.YtbbgibekplfacaaDoorProg
import Derived.WalkKit
import Derived.Lib.Hide
import Derived.Handy
import Derived.Lib.SmallJoins
import Derived.Laws.StructEq
import Derived.Laws.NewDeep
/- Plain: updates, a row of them, one in a block. -/
namespace Go.Proofs.YtbbgibekplfacaaDoor
open Go Go.RowKit
/-- An update: its key, its kind, its number, its text. -/
abbrev Up := ByteArray × Int × Int × ByteArray
def uu (u : Up) : Value := .agg #[.string u.1, .int .i64 u.2.1, .int .i64 u.2.2.1, .string u.2.2.2]
def up0 : Up := (⟨#[]⟩, 0, 0, ⟨#[]⟩)
/-- From the place off of block b on lie these updates. -/
structure Us (w : World) (b off : Nat) (us : List Up) : Prop where
  key : ∀ i, i < us.length → w.cell? ⟨b, off + i * 4, none⟩ = some (.string (us.getD i up0).1)
  k : ∀ i, i < us.length → w.cell? ⟨b, off + i * 4 + 1, none⟩ = some (.int .i64 (us.getD i up0).2.1)
  n : ∀ i, i < us.length → w.cell? ⟨b, off + i * 4 + 2, none⟩ = some (.int .i64 (us.getD i up0).2.2.1)
  t : ∀ i, i < us.length → w.cell? ⟨b, off + i * 4 + 3, none⟩ = some (.string (us.getD i up0).2.2.2)
theorem Us.lt {w b off us} (h : Us w b off us) (h0 : 0 < us.length) : b < w.heap.size := block_lt_of_cell (h.k 0 h0)
/-- What the walk is told of updates. -/
structure IsUs (w : World) (a : Option Addr) (len : Nat) (us : List Up) : Prop where
  size : us.length = len
  lies : 0 < len → ∃ b off, a = some ⟨b, off, none⟩ ∧ Us w b off us
theorem Us.below {w w' : World} {B b off : Nat} {us : List Up} (hf : Us w b off us) (hb : Below B w w') (hl : b < B) : Us w' b off us :=
  ⟨fun i hi => (hb.cell hl).trans (hf.key i hi), fun i hi => (hb.cell hl).trans (hf.k i hi), fun i hi => (hb.cell hl).trans (hf.n i hi), fun i hi => (hb.cell hl).trans (hf.t i hi)⟩
theorem isUs_below {w w' : World} {B : Nat} {a : Option Addr} {len : Nat} {us : List Up} (h : IsUs w a len us) (hb : Below B w w') (hB : w.heap.size ≤ B := by exact Nat.le_refl _) : IsUs w' a len us :=
  ⟨h.size, fun h0 => by
    obtain ⟨b, off, e, hf⟩ := h.lies h0
    have hl := hf.lt (by rw [h.size]; exact h0)
    exact ⟨b, off, e, hf.below hb (by omega)⟩⟩
/-- An update lies in block b. -/
def Ub (w : World) (b : Nat) (u : Up) : Prop := w.heap[b]? = some (.cells #[.string u.1, .int .i64 u.2.1, .int .i64 u.2.2.1, .string u.2.2.2] 32 (0, 0))
theorem Ub.below {w w' : World} {B b v} (h : Ub w b v) (hb : Below B w w') (hl : b < B) : Ub w' b v := (hb.block b hl).trans h
theorem Ub.lt {w : World} {b v} (h : Ub w b v) : b < w.heap.size := (Array.getElem?_eq_some_iff.1 h).1
theorem Ub.alloc {w : World} {b v} (h : Ub w b v) (o : Obj) : Ub (w.alloc o) b v := (Below.heap_alloc _ _ _ h.lt).trans h
theorem Ub.c0 {w b u} (h : Ub w b u) : w.cell? ⟨b, 0, none⟩ = some (.string u.1) := by unfold Ub at h; simp [World.cell?, h]
theorem Ub.c1 {w b u} (h : Ub w b u) : w.cell? ⟨b, 1, none⟩ = some (.int .i64 u.2.1) := by unfold Ub at h; simp [World.cell?, h]
theorem Ub.c2 {w b u} (h : Ub w b u) : w.cell? ⟨b, 2, none⟩ = some (.int .i64 u.2.2.1) := by unfold Ub at h; simp [World.cell?, h]
theorem Ub.c3 {w b u} (h : Ub w b u) : w.cell? ⟨b, 3, none⟩ = some (.string u.2.2.2) := by unfold Ub at h; simp [World.cell?, h]
theorem Ub.f0 {w b u} (h : Ub w b u) (i : Nat) : w.frozen? ⟨b, i, none⟩ = false := by unfold Ub at h; simp [World.frozen?, h]
theorem Ub.kept {w w' : World} {b u} {row : Option Nat} (h : Ub w b u) (hg : w.grownBy w' row) (hne : some b ≠ row) : Ub w' b u := (hg.block b h.lt hne).trans h
end Go.Proofs.YtbbgibekplfacaaDoor
/- value.May. -/
namespace Go.Proofs.YtbbgibekplfacaaDoor
open Go Go.RowKit
/-- Why an update may not be, behind its key. -/
def mayK (x n : Int) (s : ByteArray) : Int :=
  if x = 1 ∨ x = 3 then (if s = ⟨#[]⟩ then (if n < (-2305843009213693952) ∨ 2305843009213693951 < n then 1 else 0) else 13)
  else if x = 2 ∨ x = 4 then (if n = 0 then (if 32 < s.size then 1 else 0) else 13)
  else if x = 5 then (if n = 0 ∧ s = ⟨#[]⟩ then 0 else 13) else 5
/-- Why an update may not be. -/
def mayE (u : Up) : Int := if u.1.size = 0 ∨ 16 < u.1.size then 1 else mayK u.2.1 u.2.2.1 u.2.2.2
theorem mayE_key (key : ByteArray) (x n : Int) (s : ByteArray) (h : key.size = 0 ∨ 16 < key.size) : mayE (key, x, n, s) = 1 := if_pos h
theorem mayE_in (key : ByteArray) (x n : Int) (s : ByteArray) (h1 : 1 ≤ key.size) (h2 : key.size ≤ 16) : mayE (key, x, n, s) = mayK x n s := by
  have e1 : ¬ key.size = 0 := by omega
  have e2 : ¬ 16 < key.size := by omega
  simp [mayE, e1, e2]
theorem str_ne (s : ByteArray) (h : ¬ s = ⟨#[]⟩) : s.toList.isEmpty = false := by
  cases e : s.toList.isEmpty with
  | false => rfl
  | true =>
    rw [List.isEmpty_iff, ByteArray.toList_eq] at e
    obtain ⟨⟨l⟩⟩ := s
    exact absurd (by simp at e; subst e; rfl) h
theorem may_kl (key : ByteArray) (x n : Int) (s : ByteArray) (w : World) (k1 : key.size = 0) : Calls Tryd.prog 50 #[.agg #[.string key, .int .i64 x, .int .i64 n, .string s]] w fun e w' => e = .returned (.int .i64 1) ∧ Below w.heap.size w w' := by
  have q1 : decide ((key.size : Int) < 1) = true := decide_eq_true (by omega)
  have q2 : ((key.size : Int) == 0) = true := beq_iff_eq.2 (by omega)
  go_enter Tryd.func50, Tryd.ntmps50
  go_wp2
  go_ret
  exact ⟨rfl, (by first | exact Joins.below_alloc1 _ _ | exact Joins.below_alloc2 _ _ _)⟩
theorem may_kh (key : ByteArray) (x n : Int) (s : ByteArray) (w : World) (k1 : 16 < key.size) : Calls Tryd.prog 50 #[.agg #[.string key, .int .i64 x, .int .i64 n, .string s]] w fun e w' => e = .returned (.int .i64 1) ∧ Below w.heap.size w w' := by
  have q1 : decide ((key.size : Int) < 1) = false := decide_eq_false (by omega)
  have q2 : ((key.size : Int) == 0) = false := beq_false_of_ne (by omega)
  have q3 : decide ((16 : Int) < (key.size : Int)) = true := decide_eq_true (by omega)
  go_enter Tryd.func50, Tryd.ntmps50
  go_wp2
  go_ret
  exact ⟨rfl, (by first | exact Joins.below_alloc1 _ _ | exact Joins.below_alloc2 _ _ _)⟩
theorem may_1f (key : ByteArray) (n : Int) (s : ByteArray) (w : World) (k1 : 1 ≤ key.size) (k2 : key.size ≤ 16) (hs : ¬ s = ⟨#[]⟩) : Calls Tryd.prog 50 #[.agg #[.string key, .int .i64 1, .int .i64 n, .string s]] w fun e w' => e = .returned (.int .i64 13) ∧ Below w.heap.size w w' := by
  have hb := str_ne s hs
  have q1 : decide ((key.size : Int) < 1) = false := decide_eq_false (by omega)
  have q2 : ((key.size : Int) == 0) = false := beq_false_of_ne (by omega)
  have q3 : decide ((16 : Int) < (key.size : Int)) = false := decide_eq_false (by omega)
  go_enter Tryd.func50, Tryd.ntmps50
  go_wp2
  go_ret
  exact ⟨rfl, (by first | exact Joins.below_alloc1 _ _ | exact Joins.below_alloc2 _ _ _)⟩
theorem may_1l (key : ByteArray) (n : Int) (w : World) (k1 : 1 ≤ key.size) (k2 : key.size ≤ 16) (hn : n < (-2305843009213693952)) : Calls Tryd.prog 50 #[.agg #[.string key, .int .i64 1, .int .i64 n, .string ⟨#[]⟩]] w fun e w' => e = .returned (.int .i64 1) ∧ Below w.heap.size w w' := by
  have q1 : decide ((key.size : Int) < 1) = false := decide_eq_false (by omega)
  have q2 : ((key.size : Int) == 0) = false := beq_false_of_ne (by omega)
  have q3 : decide ((16 : Int) < (key.size : Int)) = false := decide_eq_false (by omega)
  go_enter Tryd.func50, Tryd.ntmps50
  go_wp2
  go_ret
  exact ⟨rfl, (by first | exact Joins.below_alloc1 _ _ | exact Joins.below_alloc2 _ _ _)⟩
theorem may_1h (key : ByteArray) (n : Int) (w : World) (k1 : 1 ≤ key.size) (k2 : key.size ≤ 16) (hn : 2305843009213693951 < n) : Calls Tryd.prog 50 #[.agg #[.string key, .int .i64 1, .int .i64 n, .string ⟨#[]⟩]] w fun e w' => e = .returned (.int .i64 1) ∧ Below w.heap.size w w' := by
  have q1 : decide ((key.size : Int) < 1) = false := decide_eq_false (by omega)
  have q2 : ((key.size : Int) == 0) = false := beq_false_of_ne (by omega)
  have q3 : decide ((16 : Int) < (key.size : Int)) = false := decide_eq_false (by omega)
  go_enter Tryd.func50, Tryd.ntmps50
  go_wp2
  go_ret
  exact ⟨rfl, (by first | exact Joins.below_alloc1 _ _ | exact Joins.below_alloc2 _ _ _)⟩
theorem may_1o (key : ByteArray) (n : Int) (w : World) (k1 : 1 ≤ key.size) (k2 : key.size ≤ 16) (hn : (-2305843009213693952) ≤ n) (hm : n ≤ 2305843009213693951) : Calls Tryd.prog 50 #[.agg #[.string key, .int .i64 1, .int .i64 n, .string ⟨#[]⟩]] w fun e w' => e = .returned (.int .i64 0) ∧ Below w.heap.size w w' := by
  have q1 : decide ((key.size : Int) < 1) = false := decide_eq_false (by omega)
  have q2 : ((key.size : Int) == 0) = false := beq_false_of_ne (by omega)
  have q3 : decide ((16 : Int) < (key.size : Int)) = false := decide_eq_false (by omega)
  go_enter Tryd.func50, Tryd.ntmps50
  go_wp2
  go_ret
  exact ⟨rfl, (by first | exact Joins.below_alloc1 _ _ | exact Joins.below_alloc2 _ _ _)⟩
theorem may_3f (key : ByteArray) (n : Int) (s : ByteArray) (w : World) (k1 : 1 ≤ key.size) (k2 : key.size ≤ 16) (hs : ¬ s = ⟨#[]⟩) : Calls Tryd.prog 50 #[.agg #[.string key, .int .i64 3, .int .i64 n, .string s]] w fun e w' => e = .returned (.int .i64 13) ∧ Below w.heap.size w w' := by
  have hb := str_ne s hs
  have q1 : decide ((key.size : Int) < 1) = false := decide_eq_false (by omega)
  have q2 : ((key.size : Int) == 0) = false := beq_false_of_ne (by omega)
  have q3 : decide ((16 : Int) < (key.size : Int)) = false := decide_eq_false (by omega)
  go_enter Tryd.func50, Tryd.ntmps50
  go_wp2
  go_ret
  exact ⟨rfl, (by first | exact Joins.below_alloc1 _ _ | exact Joins.below_alloc2 _ _ _)⟩
theorem may_3l (key : ByteArray) (n : Int) (w : World) (k1 : 1 ≤ key.size) (k2 : key.size ≤ 16) (hn : n < (-2305843009213693952)) : Calls Tryd.prog 50 #[.agg #[.string key, .int .i64 3, .int .i64 n, .string ⟨#[]⟩]] w fun e w' => e = .returned (.int .i64 1) ∧ Below w.heap.size w w' := by
  have q1 : decide ((key.size : Int) < 1) = false := decide_eq_false (by omega)
  have q2 : ((key.size : Int) == 0) = false := beq_false_of_ne (by omega)
  have q3 : decide ((16 : Int) < (key.size : Int)) = false := decide_eq_false (by omega)
  go_enter Tryd.func50, Tryd.ntmps50
  go_wp2
  go_ret
  exact ⟨rfl, (by first | exact Joins.below_alloc1 _ _ | exact Joins.below_alloc2 _ _ _)⟩
theorem may_3h (key : ByteArray) (n : Int) (w : World) (k1 : 1 ≤ key.size) (k2 : key.size ≤ 16) (hn : 2305843009213693951 < n) : Calls Tryd.prog 50 #[.agg #[.string key, .int .i64 3, .int .i64 n, .string ⟨#[]⟩]] w fun e w' => e = .returned (.int .i64 1) ∧ Below w.heap.size w w' := by
  have q1 : decide ((key.size : Int) < 1) = false := decide_eq_false (by omega)
  have q2 : ((key.size : Int) == 0) = false := beq_false_of_ne (by omega)
  have q3 : decide ((16 : Int) < (key.size : Int)) = false := decide_eq_false (by omega)
  go_enter Tryd.func50, Tryd.ntmps50
  go_wp2
  go_ret
  exact ⟨rfl, (by first | exact Joins.below_alloc1 _ _ | exact Joins.below_alloc2 _ _ _)⟩
theorem may_3o (key : ByteArray) (n : Int) (w : World) (k1 : 1 ≤ key.size) (k2 : key.size ≤ 16) (hn : (-2305843009213693952) ≤ n) (hm : n ≤ 2305843009213693951) : Calls Tryd.prog 50 #[.agg #[.string key, .int .i64 3, .int .i64 n, .string ⟨#[]⟩]] w fun e w' => e = .returned (.int .i64 0) ∧ Below w.heap.size w w' := by
  have q1 : decide ((key.size : Int) < 1) = false := decide_eq_false (by omega)
  have q2 : ((key.size : Int) == 0) = false := beq_false_of_ne (by omega)
  have q3 : decide ((16 : Int) < (key.size : Int)) = false := decide_eq_false (by omega)
  go_enter Tryd.func50, Tryd.ntmps50
  go_wp2
  go_ret
  exact ⟨rfl, (by first | exact Joins.below_alloc1 _ _ | exact Joins.below_alloc2 _ _ _)⟩
theorem may_2f (key : ByteArray) (n : Int) (s : ByteArray) (w : World) (k1 : 1 ≤ key.size) (k2 : key.size ≤ 16) (hn : ¬ n = 0) : Calls Tryd.prog 50 #[.agg #[.string key, .int .i64 2, .int .i64 n, .string s]] w fun e w' => e = .returned (.int .i64 13) ∧ Below w.heap.size w w' := by
  have q1 : decide ((key.size : Int) < 1) = false := decide_eq_false (by omega)
  have q2 : ((key.size : Int) == 0) = false := beq_false_of_ne (by omega)
  have q3 : decide ((16 : Int) < (key.size : Int)) = false := decide_eq_false (by omega)
  go_enter Tryd.func50, Tryd.ntmps50
  go_wp2
  go_ret
  exact ⟨rfl, (by first | exact Joins.below_alloc1 _ _ | exact Joins.below_alloc2 _ _ _)⟩
theorem may_2h (key : ByteArray) (s : ByteArray) (w : World) (k1 : 1 ≤ key.size) (k2 : key.size ≤ 16) (hs : 32 < s.size) : Calls Tryd.prog 50 #[.agg #[.string key, .int .i64 2, .int .i64 0, .string s]] w fun e w' => e = .returned (.int .i64 1) ∧ Below w.heap.size w w' := by
  have q1 : decide ((key.size : Int) < 1) = false := decide_eq_false (by omega)
  have q2 : ((key.size : Int) == 0) = false := beq_false_of_ne (by omega)
  have q3 : decide ((16 : Int) < (key.size : Int)) = false := decide_eq_false (by omega)
  go_enter Tryd.func50, Tryd.ntmps50
  go_wp2
  go_ret
  exact ⟨rfl, (by first | exact Joins.below_alloc1 _ _ | exact Joins.below_alloc2 _ _ _)⟩
theorem may_2o (key : ByteArray) (s : ByteArray) (w : World) (k1 : 1 ≤ key.size) (k2 : key.size ≤ 16) (hs : s.size ≤ 32) : Calls Tryd.prog 50 #[.agg #[.string key, .int .i64 2, .int .i64 0, .string s]] w fun e w' => e = .returned (.int .i64 0) ∧ Below w.heap.size w w' := by
  have q1 : decide ((key.size : Int) < 1) = false := decide_eq_false (by omega)
  have q2 : ((key.size : Int) == 0) = false := beq_false_of_ne (by omega)
  have q3 : decide ((16 : Int) < (key.size : Int)) = false := decide_eq_false (by omega)
  go_enter Tryd.func50, Tryd.ntmps50
  go_wp2
  go_ret
  exact ⟨rfl, (by first | exact Joins.below_alloc1 _ _ | exact Joins.below_alloc2 _ _ _)⟩
theorem may_4f (key : ByteArray) (n : Int) (s : ByteArray) (w : World) (k1 : 1 ≤ key.size) (k2 : key.size ≤ 16) (hn : ¬ n = 0) : Calls Tryd.prog 50 #[.agg #[.string key, .int .i64 4, .int .i64 n, .string s]] w fun e w' => e = .returned (.int .i64 13) ∧ Below w.heap.size w w' := by
  have q1 : decide ((key.size : Int) < 1) = false := decide_eq_false (by omega)
  have q2 : ((key.size : Int) == 0) = false := beq_false_of_ne (by omega)
  have q3 : decide ((16 : Int) < (key.size : Int)) = false := decide_eq_false (by omega)
  go_enter Tryd.func50, Tryd.ntmps50
  go_wp2
  go_ret
  exact ⟨rfl, (by first | exact Joins.below_alloc1 _ _ | exact Joins.below_alloc2 _ _ _)⟩
theorem may_4h (key : ByteArray) (s : ByteArray) (w : World) (k1 : 1 ≤ key.size) (k2 : key.size ≤ 16) (hs : 32 < s.size) : Calls Tryd.prog 50 #[.agg #[.string key, .int .i64 4, .int .i64 0, .string s]] w fun e w' => e = .returned (.int .i64 1) ∧ Below w.heap.size w w' := by
  have q1 : decide ((key.size : Int) < 1) = false := decide_eq_false (by omega)
  have q2 : ((key.size : Int) == 0) = false := beq_false_of_ne (by omega)
  have q3 : decide ((16 : Int) < (key.size : Int)) = false := decide_eq_false (by omega)
  go_enter Tryd.func50, Tryd.ntmps50
  go_wp2
  go_ret
  exact ⟨rfl, (by first | exact Joins.below_alloc1 _ _ | exact Joins.below_alloc2 _ _ _)⟩
theorem may_4o (key : ByteArray) (s : ByteArray) (w : World) (k1 : 1 ≤ key.size) (k2 : key.size ≤ 16) (hs : s.size ≤ 32) : Calls Tryd.prog 50 #[.agg #[.string key, .int .i64 4, .int .i64 0, .string s]] w fun e w' => e = .returned (.int .i64 0) ∧ Below w.heap.size w w' := by
  have q1 : decide ((key.size : Int) < 1) = false := decide_eq_false (by omega)
  have q2 : ((key.size : Int) == 0) = false := beq_false_of_ne (by omega)
  have q3 : decide ((16 : Int) < (key.size : Int)) = false := decide_eq_false (by omega)
  go_enter Tryd.func50, Tryd.ntmps50
  go_wp2
  go_ret
  exact ⟨rfl, (by first | exact Joins.below_alloc1 _ _ | exact Joins.below_alloc2 _ _ _)⟩
theorem may_5f (key : ByteArray) (n : Int) (s : ByteArray) (w : World) (k1 : 1 ≤ key.size) (k2 : key.size ≤ 16) (hn : ¬ n = 0) : Calls Tryd.prog 50 #[.agg #[.string key, .int .i64 5, .int .i64 n, .string s]] w fun e w' => e = .returned (.int .i64 13) ∧ Below w.heap.size w w' := by
  have q1 : decide ((key.size : Int) < 1) = false := decide_eq_false (by omega)
  have q2 : ((key.size : Int) == 0) = false := beq_false_of_ne (by omega)
  have q3 : decide ((16 : Int) < (key.size : Int)) = false := decide_eq_false (by omega)
  go_enter Tryd.func50, Tryd.ntmps50
  go_wp2
  go_ret
  exact ⟨rfl, (by first | exact Joins.below_alloc1 _ _ | exact Joins.below_alloc2 _ _ _)⟩
theorem may_5g (key : ByteArray) (s : ByteArray) (w : World) (k1 : 1 ≤ key.size) (k2 : key.size ≤ 16) (hs : ¬ s = ⟨#[]⟩) : Calls Tryd.prog 50 #[.agg #[.string key, .int .i64 5, .int .i64 0, .string s]] w fun e w' => e = .returned (.int .i64 13) ∧ Below w.heap.size w w' := by
  have hb := str_ne s hs
  have q1 : decide ((key.size : Int) < 1) = false := decide_eq_false (by omega)
  have q2 : ((key.size : Int) == 0) = false := beq_false_of_ne (by omega)
  have q3 : decide ((16 : Int) < (key.size : Int)) = false := decide_eq_false (by omega)
  go_enter Tryd.func50, Tryd.ntmps50
  go_wp2
  go_ret
  exact ⟨rfl, (by first | exact Joins.below_alloc1 _ _ | exact Joins.below_alloc2 _ _ _)⟩
theorem may_5o (key : ByteArray)  (w : World) (k1 : 1 ≤ key.size) (k2 : key.size ≤ 16) : Calls Tryd.prog 50 #[.agg #[.string key, .int .i64 5, .int .i64 0, .string ⟨#[]⟩]] w fun e w' => e = .returned (.int .i64 0) ∧ Below w.heap.size w w' := by
  have q1 : decide ((key.size : Int) < 1) = false := decide_eq_false (by omega)
  have q2 : ((key.size : Int) == 0) = false := beq_false_of_ne (by omega)
  have q3 : decide ((16 : Int) < (key.size : Int)) = false := decide_eq_false (by omega)
  go_enter Tryd.func50, Tryd.ntmps50
  go_wp2
  go_ret
  exact ⟨rfl, (by first | exact Joins.below_alloc1 _ _ | exact Joins.below_alloc2 _ _ _)⟩
theorem may_xl (key : ByteArray) (x n : Int) (s : ByteArray) (w : World) (k1 : 1 ≤ key.size) (k2 : key.size ≤ 16) (hx : x < 1) : Calls Tryd.prog 50 #[.agg #[.string key, .int .i64 x, .int .i64 n, .string s]] w fun e w' => e = .returned (.int .i64 5) ∧ Below w.heap.size w w' := by
  have q1 : decide ((key.size : Int) < 1) = false := decide_eq_false (by omega)
  have q2 : ((key.size : Int) == 0) = false := beq_false_of_ne (by omega)
  have q3 : decide ((16 : Int) < (key.size : Int)) = false := decide_eq_false (by omega)
  have x1 : ¬ x = 1 := by omega
  have x2 : ¬ x = 2 := by omega
  have x3 : ¬ x = 3 := by omega
  have x4 : ¬ x = 4 := by omega
  have x5 : ¬ x = 5 := by omega
  go_enter Tryd.func50, Tryd.ntmps50
  go_wp2
  go_ret
  exact ⟨rfl, (by first | exact Joins.below_alloc1 _ _ | exact Joins.below_alloc2 _ _ _)⟩
theorem may_xh (key : ByteArray) (x n : Int) (s : ByteArray) (w : World) (k1 : 1 ≤ key.size) (k2 : key.size ≤ 16) (hx : 5 < x) : Calls Tryd.prog 50 #[.agg #[.string key, .int .i64 x, .int .i64 n, .string s]] w fun e w' => e = .returned (.int .i64 5) ∧ Below w.heap.size w w' := by
  have q1 : decide ((key.size : Int) < 1) = false := decide_eq_false (by omega)
  have q2 : ((key.size : Int) == 0) = false := beq_false_of_ne (by omega)
  have q3 : decide ((16 : Int) < (key.size : Int)) = false := decide_eq_false (by omega)
  have x1 : ¬ x = 1 := by omega
  have x2 : ¬ x = 2 := by omega
  have x3 : ¬ x = 3 := by omega
  have x4 : ¬ x = 4 := by omega
  have x5 : ¬ x = 5 := by omega
  go_enter Tryd.func50, Tryd.ntmps50
  go_wp2
  go_ret
  exact ⟨rfl, (by first | exact Joins.below_alloc1 _ _ | exact Joins.below_alloc2 _ _ _)⟩
theorem may_any (u : Up) (w : World) : Calls Tryd.prog 50 #[uu u] w fun e w' => e = .returned (.int .i64 (mayE u)) ∧ Below w.heap.size w w' := by
  obtain ⟨key, x, n, s⟩ := u
  unfold uu
  by_cases a1 : key.size = 0
  · rw [mayE_key _ _ _ _ (.inl a1)]; exact may_kl key x n s w a1
  by_cases a2 : 16 < key.size
  · rw [mayE_key _ _ _ _ (.inr a2)]; exact may_kh key x n s w a2
  have k1 : 1 ≤ key.size := by omega
  have k2 : key.size ≤ 16 := by omega
  rw [mayE_in _ _ _ _ k1 k2]
  clear a1 a2
  by_cases x1 : x = 1
  · subst x1
    by_cases hs : s = ⟨#[]⟩
    · subst hs
      by_cases hl : n < (-2305843009213693952)
      · rw [show mayK 1 n ⟨#[]⟩ = 1 by simp [mayK, hl]]; exact may_1l key n w k1 k2 hl
      by_cases hh : 2305843009213693951 < n
      · rw [show mayK 1 n ⟨#[]⟩ = 1 by simp [mayK, hh]]; exact may_1h key n w k1 k2 hh
      · rw [show mayK 1 n ⟨#[]⟩ = 0 by simp [mayK, hl, hh]]; exact may_1o key n w k1 k2 (by omega) (by omega)
    · rw [show mayK 1 n s = 13 by simp [mayK, hs]]; exact may_1f key n s w k1 k2 hs
  by_cases x3 : x = 3
  · subst x3
    by_cases hs : s = ⟨#[]⟩
    · subst hs
      by_cases hl : n < (-2305843009213693952)
      · rw [show mayK 3 n ⟨#[]⟩ = 1 by simp [mayK, hl]]; exact may_3l key n w k1 k2 hl
      by_cases hh : 2305843009213693951 < n
      · rw [show mayK 3 n ⟨#[]⟩ = 1 by simp [mayK, hh]]; exact may_3h key n w k1 k2 hh
      · rw [show mayK 3 n ⟨#[]⟩ = 0 by simp [mayK, hl, hh]]; exact may_3o key n w k1 k2 (by omega) (by omega)
    · rw [show mayK 3 n s = 13 by simp [mayK, hs]]; exact may_3f key n s w k1 k2 hs
  by_cases x2 : x = 2
  · subst x2
    by_cases hn : n = 0
    · subst hn
      by_cases hs : 32 < s.size
      · rw [show mayK 2 0 s = 1 by simp [mayK, hs]]; exact may_2h key s w k1 k2 hs
      · rw [show mayK 2 0 s = 0 by simp [mayK, hs]]; exact may_2o key s w k1 k2 (by omega)
    · rw [show mayK 2 n s = 13 by simp [mayK, hn]]; exact may_2f key n s w k1 k2 hn
  by_cases x4 : x = 4
  · subst x4
    by_cases hn : n = 0
    · subst hn
      by_cases hs : 32 < s.size
      · rw [show mayK 4 0 s = 1 by simp [mayK, hs]]; exact may_4h key s w k1 k2 hs
      · rw [show mayK 4 0 s = 0 by simp [mayK, hs]]; exact may_4o key s w k1 k2 (by omega)
    · rw [show mayK 4 n s = 13 by simp [mayK, hn]]; exact may_4f key n s w k1 k2 hn
  by_cases x5 : x = 5
  · subst x5
    by_cases hn : n = 0
    · subst hn
      by_cases hs : s = ⟨#[]⟩
      · subst hs
        rw [show mayK 5 0 ⟨#[]⟩ = 0 by simp [mayK]]; exact may_5o key w k1 k2
      · rw [show mayK 5 0 s = 13 by simp [mayK, hs]]; exact may_5g key s w k1 k2 hs
    · rw [show mayK 5 n s = 13 by simp [mayK, hn]]; exact may_5f key n s w k1 k2 hn
  rw [show mayK x n s = 5 by simp [mayK, x1, x2, x3, x4, x5]]
  by_cases hx : x < 1
  · exact may_xl key x n s w k1 k2 hx
  · exact may_xh key x n s w k1 k2 (by omega)
end Go.Proofs.YtbbgibekplfacaaDoor
