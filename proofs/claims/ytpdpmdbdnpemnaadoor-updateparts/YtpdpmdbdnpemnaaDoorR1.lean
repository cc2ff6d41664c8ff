/- The reader: its block, Fail, Err. -/
import Derived.Test.YtpdpmdbdnpemnaaDoorW7
namespace Go.Proofs.YtpdpmdbdnpemnaaDoor
open Go Go.RowKit
/-- In block b lies a reader with that rest and that error. -/
def Rd (w : World) (b : Nat) (rest : ByteArray) (err : Int) : Prop := w.heap[b]? = some (.cells #[.string rest, .int .i64 err] 65 (0, 0))
theorem Rd.c0 {w b rest err} (h : Rd w b rest err) : w.cell? ⟨b, 0, none⟩ = some (.string rest) := by unfold Rd at h; simp [World.cell?, h]
theorem Rd.c1 {w b rest err} (h : Rd w b rest err) : w.cell? ⟨b, 1, none⟩ = some (.int .i64 err) := by unfold Rd at h; simp [World.cell?, h]
theorem Rd.f0 {w b rest err} (h : Rd w b rest err) (i : Nat) : w.frozen? ⟨b, i, none⟩ = false := by unfold Rd at h; simp [World.frozen?, h]
theorem Rd.lt {w b rest err} (h : Rd w b rest err) : b < w.heap.size := (Array.getElem?_eq_some_iff.1 h).1
theorem Rd.kept {w w' : World} {b rest err} {row : Option Nat} (h : Rd w b rest err) (hg : w.grownBy w' row) (hne : some b ≠ row) : Rd w' b rest err := (hg.block b h.lt hne).trans h
theorem grown_set (w : World) (b i : Nat) (v : Value) : w.grownBy (w.setCell ⟨b, i, none⟩ v) (some b) := ⟨rfl, rfl, rfl, by simp [World.setCell], fun k _ hk => Below.heap_setCell _ _ _ _ (fun e => hk (by rw [e]))⟩
theorem grown_refl (w : World) (row : Option Nat) : w.grownBy w row := ⟨rfl, rfl, rfl, Nat.le_refl _, fun _ _ _ => rfl⟩
theorem grown_trans {a b c : World} {row : Option Nat} (h : a.grownBy b row) (k : b.grownBy c row) : a.grownBy c row :=
  ⟨k.os.trans h.os, k.tape.trans h.tape, k.output.trans h.output, Nat.le_trans h.size k.size, fun i hi hr => (k.block i (Nat.lt_of_lt_of_le hi h.size) hr).trans (h.block i hi hr)⟩
theorem grown_below {a b : World} {row : Option Nat} (h : Below a.heap.size a b) : a.grownBy b row := ⟨h.os, h.tape, h.output, h.size, fun j hj _ => h.block j hj⟩
theorem Rd.set0 {w b rest err} (h : Rd w b rest err) (s : ByteArray) : Rd (w.setCell ⟨b, 0, none⟩ (.string s)) b s err := by
  unfold Rd at *; simp [World.setCell, Array.getElem?_modify, h]
theorem Rd.set1 {w b rest err} (h : Rd w b rest err) (e : Int) : Rd (w.setCell ⟨b, 1, none⟩ (.int .i64 e)) b rest e := by
  unfold Rd at *; simp [World.setCell, Array.getElem?_modify, h]
set_option maxHeartbeats 400000 in
theorem err_any (b : Nat) (rest : ByteArray) (err : Int) (w : World) (h : Rd w b rest err) : Calls Tryd.prog 22 #[.pointer (some ⟨b, 0, none⟩)] w fun x w' => x = .returned (.int .i64 err) ∧ w = w' := by
  have c1 := h.c1
  go_enter Tryd.func22, Tryd.ntmps22
  go_wp2
  go_ret
  exact ⟨rfl, rfl⟩
set_option maxHeartbeats 400000 in
theorem fail_no (b : Nat) (rest : ByteArray) (err e : Int) (he : err ≠ 0) (w : World) (h : Rd w b rest err) : Calls Tryd.prog 38 #[.pointer (some ⟨b, 0, none⟩), .int .i64 e] w fun x w' => x = .returned (.tuple #[]) ∧ w = w' := by
  have c1 := h.c1
  have k1 : (err == 0) = false := by rw [beq_eq_false_iff_ne]; exact he
  go_enter Tryd.func38, Tryd.ntmps38
  go_wp2
  first | go_end0 | refine bodyPost_ret (results_none rfl _ _ _) rfl ?_
  exact ⟨rfl, rfl⟩
set_option maxHeartbeats 400000 in
theorem fail_ok (b : Nat) (rest : ByteArray) (w : World) (h : Rd w b rest 0) : Calls Tryd.prog 38 #[.pointer (some ⟨b, 0, none⟩), .int .i64 0] w fun x w' => x = .returned (.tuple #[]) ∧ w = w' := by
  have c1 := h.c1
  go_enter Tryd.func38, Tryd.ntmps38
  go_wp2
  first | go_end0 | refine bodyPost_ret (results_none rfl _ _ _) rfl ?_
  exact ⟨rfl, rfl⟩
set_option maxHeartbeats 400000 in
theorem fail_yes (b : Nat) (rest : ByteArray) (e : Int) (he : e ≠ 0) (w : World) (h : Rd w b rest 0) : Calls Tryd.prog 38 #[.pointer (some ⟨b, 0, none⟩), .int .i64 e] w fun x w' => x = .returned (.tuple #[]) ∧ Rd w' b ⟨#[]⟩ e ∧ w.grownBy w' (some b) := by
  have c0 := h.c0
  have c1 := h.c1
  have f0 := h.f0 0
  have f1 := h.f0 1
  have k1 : (e == 0) = false := by rw [beq_eq_false_iff_ne]; exact he
  go_enter Tryd.func38, Tryd.ntmps38
  go_wp2
  first | go_end0 | refine bodyPost_ret (results_none rfl _ _ _) rfl ?_
  exact ⟨rfl, (h.set0 _).set1 _, grown_trans (grown_set _ _ _ _) (grown_set _ _ _ _)⟩
end Go.Proofs.YtpdpmdbdnpemnaaDoor
