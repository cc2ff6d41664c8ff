/- Plain: values, updates, and what an update makes of a value. -/
import Derived.Test.YteonmljchcekpaaProg
import Derived.WalkKit
import Derived.Lib.Hide
import Derived.Handy
import Derived.Lib.SmallJoins
import Derived.Laws.StructEq
import Derived.Laws.NewDeep
namespace Go.Proofs.Yteonmljchcekpaa
open Go Go.RowKit
/-- A value: its kind, its number, its text. -/
abbrev Vl := Int × Int × ByteArray
/-- An update: its key, its kind, its number, its text. -/
abbrev Up := ByteArray × Int × Int × ByteArray
def emp : ByteArray := ⟨#[]⟩
def vv (v : Vl) : Value := .agg #[.int .i64 v.1, .int .i64 v.2.1, .string v.2.2]
def uu (u : Up) : Value := .agg #[.string u.1, .int .i64 u.2.1, .int .i64 u.2.2.1, .string u.2.2.2]
def numV (n : Int) : Vl := (1, n, emp)
def txtV (s : ByteArray) : Vl := (2, 0, s)
def noneV : Vl := (0, 0, emp)
def bareV (v : Vl) : Vl := if v.1 = 1 then numV v.2.1 else if v.1 = 2 then txtV v.2.2 else noneV
def addV (v : Vl) (n : Int) : Vl := if v.1 = 2 then v else numV (wrap64 (v.2.1 + n))
def appV (v : Vl) (s : ByteArray) : Vl := if v.1 = 0 then txtV s else if v.1 = 1 ∨ 1024 < v.2.2.size + s.size then v else txtV (v.2.2 ++ s)
def madeV (v : Vl) (u : Up) : Vl :=
  if u.2.1 = 1 then numV u.2.2.1 else if u.2.1 = 2 then txtV u.2.2.2 else if u.2.1 = 3 then addV v u.2.2.1 else if u.2.1 = 4 then appV v u.2.2.2 else if u.2.1 = 5 then noneV else v
/-- What one update makes. -/
def oneV (v : Vl) (u : Up) : Vl := madeV (bareV v) u
/-- What updates make, one by one. -/
def allV (v : Vl) (us : List Up) : Vl := us.foldl oneV v
/-- Its text isn't longer than is played. -/
def Sh (s : ByteArray) : Prop := s.size ≤ 100000
theorem bare_sh (v : Vl) (h : Sh v.2.2) : Sh (bareV v).2.2 := by
  unfold bareV; split
  · show (0 : Nat) ≤ _; omega
  · split
    · exact h
    · show (0 : Nat) ≤ _; omega
theorem made_sh (v : Vl) (u : Up) (h : Sh v.2.2) (k : Sh u.2.2.2) : Sh (madeV v u).2.2 := by
  have z : ∀ n, Sh (numV n).2.2 := fun n => by show (0 : Nat) ≤ _; omega
  unfold madeV; split
  · exact z _
  split
  · exact k
  split
  · unfold addV; split
    · exact h
    · exact z _
  split
  · unfold appV; split
    · exact k
    split
    · exact h
    · rename_i hh
      show (v.2.2 ++ u.2.2.2).size ≤ 100000
      rw [ByteArray.size_append]; omega
  split
  · show (0 : Nat) ≤ _; omega
  · exact h
theorem one_sh (v : Vl) (u : Up) (h : Sh v.2.2) (k : Sh u.2.2.2) : Sh (oneV v u).2.2 := made_sh _ _ (bare_sh _ h) k
theorem allV_step (v : Vl) (us : List Up) (k : Nat) (h : k < us.length) (d : Up) : allV v (us.take (k + 1)) = oneV (allV v (us.take k)) (us.getD k d) := by
  unfold allV
  rw [List.take_add_one, List.foldl_append]
  simp [List.getD_eq_getElem?_getD, h]
theorem allV_sh (us : List Up) (hu : ∀ u ∈ us, Sh u.2.2.2) : ∀ v : Vl, Sh v.2.2 → Sh (allV v us).2.2 := by
  induction us with
  | nil => exact fun v h => h
  | cons u us ih => exact fun v h => ih (fun x hx => hu x (List.mem_cons_of_mem _ hx)) _ (one_sh _ _ h (hu u List.mem_cons_self))
end Go.Proofs.Yteonmljchcekpaa
