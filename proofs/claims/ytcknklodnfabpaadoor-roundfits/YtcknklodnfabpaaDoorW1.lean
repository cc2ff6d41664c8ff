/- The contracts of ownBits, tagOf and Size. -/
import Derived.Test.YtcknklodnfabpaaDoorProg
import Derived.WalkKit
import Derived.Lib.Hide
import Derived.Handy
namespace Go.Proofs.YtcknklodnfabpaaDoor
open Go Go.RowKit

/-- The table of widths lies as the program's text lays it. -/
structure Wd (w : World) : Prop where
  c0 : w.cell? ⟨0, 0, none⟩ = some (.int .i64 1)
  c1 : w.cell? ⟨0, 1, none⟩ = some (.int .i64 2)
  c2 : w.cell? ⟨0, 2, none⟩ = some (.int .i64 4)
  c3 : w.cell? ⟨0, 3, none⟩ = some (.int .i64 8)
  pos : 0 < w.heap.size

theorem Wd.below {w w' : World} (h : Wd w) (b : Below w.heap.size w w') : Wd w' :=
  ⟨(b.cell h.pos).trans h.c0, (b.cell h.pos).trans h.c1, (b.cell h.pos).trans h.c2, (b.cell h.pos).trans h.c3, Nat.lt_of_lt_of_le h.pos b.size⟩

theorem own0 (w : World) (h : Wd w) : Calls Tryd.prog 74 #[.int .i64 0] w fun e w' => e = .returned (.int .u64 6) ∧ w = w' := by
  have h0 := h.c0
  go_enter Tryd.func74, Tryd.ntmps74
  go_wp2
  go_ret
  exact ⟨rfl, rfl⟩
theorem own1 (w : World) (h : Wd w) : Calls Tryd.prog 74 #[.int .i64 1] w fun e w' => e = .returned (.int .u64 14) ∧ w = w' := by
  have h0 := h.c1
  go_enter Tryd.func74, Tryd.ntmps74
  go_wp2
  go_ret
  exact ⟨rfl, rfl⟩
theorem own2 (w : World) (h : Wd w) : Calls Tryd.prog 74 #[.int .i64 2] w fun e w' => e = .returned (.int .u64 30) ∧ w = w' := by
  have h0 := h.c2
  go_enter Tryd.func74, Tryd.ntmps74
  go_wp2
  go_ret
  exact ⟨rfl, rfl⟩
theorem own3 (w : World) (h : Wd w) : Calls Tryd.prog 74 #[.int .i64 3] w fun e w' => e = .returned (.int .u64 62) ∧ w = w' := by
  have h0 := h.c3
  go_enter Tryd.func74, Tryd.ntmps74
  go_wp2
  go_ret
  exact ⟨rfl, rfl⟩
set_option maxHeartbeats 400000 in
theorem tag0 (n : Int) (h1 : 0 ≤ n) (h2 : n < 64) (w : World) (h : Wd w) : Calls Tryd.prog 73 #[.int .u64 n] w fun e w' => e = .returned (.tuple #[.int .i64 0, .bool true]) ∧ w = w' := by
  have c0 := h.c0
  have k0 : (n / 64 == 0) = true := by rw [beq_iff_eq]; omega
  go_enter Tryd.func73, Tryd.ntmps73
  go_wp2
  go_rounds 1
  go_ret2
  exact ⟨rfl, rfl⟩
set_option maxHeartbeats 400000 in
theorem tag1 (n : Int) (h1 : 64 ≤ n) (h2 : n < 16384) (w : World) (h : Wd w) : Calls Tryd.prog 73 #[.int .u64 n] w fun e w' => e = .returned (.tuple #[.int .i64 1, .bool true]) ∧ w = w' := by
  have c0 := h.c0
  have c1 := h.c1
  have k0 : (n / 64 == 0) = false := by rw [beq_eq_false_iff_ne]; omega
  have k1 : (n / 16384 == 0) = true := by rw [beq_iff_eq]; omega
  go_enter Tryd.func73, Tryd.ntmps73
  go_wp2
  go_rounds 2
  go_ret2
  exact ⟨rfl, rfl⟩
set_option maxHeartbeats 400000 in
theorem tag2 (n : Int) (h1 : 16384 ≤ n) (h2 : n < 1073741824) (w : World) (h : Wd w) : Calls Tryd.prog 73 #[.int .u64 n] w fun e w' => e = .returned (.tuple #[.int .i64 2, .bool true]) ∧ w = w' := by
  have c0 := h.c0
  have c1 := h.c1
  have c2 := h.c2
  have k0 : (n / 64 == 0) = false := by rw [beq_eq_false_iff_ne]; omega
  have k1 : (n / 16384 == 0) = false := by rw [beq_eq_false_iff_ne]; omega
  have k2 : (n / 1073741824 == 0) = true := by rw [beq_iff_eq]; omega
  go_enter Tryd.func73, Tryd.ntmps73
  go_wp2
  go_rounds 3
  go_ret2
  exact ⟨rfl, rfl⟩
set_option maxHeartbeats 400000 in
theorem tag3 (n : Int) (h1 : 1073741824 ≤ n) (h2 : n < 4611686018427387904) (w : World) (h : Wd w) : Calls Tryd.prog 73 #[.int .u64 n] w fun e w' => e = .returned (.tuple #[.int .i64 3, .bool true]) ∧ w = w' := by
  have c0 := h.c0
  have c1 := h.c1
  have c2 := h.c2
  have c3 := h.c3
  have k0 : (n / 64 == 0) = false := by rw [beq_eq_false_iff_ne]; omega
  have k1 : (n / 16384 == 0) = false := by rw [beq_eq_false_iff_ne]; omega
  have k2 : (n / 1073741824 == 0) = false := by rw [beq_eq_false_iff_ne]; omega
  have k3 : (n / 4611686018427387904 == 0) = true := by rw [beq_iff_eq]; omega
  go_enter Tryd.func73, Tryd.ntmps73
  go_wp2
  go_rounds 4
  go_ret2
  exact ⟨rfl, rfl⟩
set_option maxHeartbeats 400000 in
theorem tagN (n : Int) (h1 : 4611686018427387904 ≤ n) (w : World) (h : Wd w) : Calls Tryd.prog 73 #[.int .u64 n] w fun e w' => e = .returned (.tuple #[.int .i64 0, .bool false]) ∧ w = w' := by
  have c0 := h.c0
  have c1 := h.c1
  have c2 := h.c2
  have c3 := h.c3
  have k0 : (n / 64 == 0) = false := by rw [beq_eq_false_iff_ne]; omega
  have k1 : (n / 16384 == 0) = false := by rw [beq_eq_false_iff_ne]; omega
  have k2 : (n / 1073741824 == 0) = false := by rw [beq_eq_false_iff_ne]; omega
  have k3 : (n / 4611686018427387904 == 0) = false := by rw [beq_eq_false_iff_ne]; omega
  go_enter Tryd.func73, Tryd.ntmps73
  go_wp2
  go_rounds 5
  go_ret2
  exact ⟨rfl, rfl⟩
set_option maxHeartbeats 400000 in
theorem size0 (n : Int) (h1 : 0 ≤ n) (h2 : n < 64) (w : World) (h : Wd w) : Calls Tryd.prog 75 #[.int .u64 n] w fun e w' => e = .returned (.int .i64 1) ∧ w = w' := by
  have c0 := h.c0
  go_enter Tryd.func75, Tryd.ntmps75
  go_wp2_with fail
  refine (tag0 n h1 h2 _ h).mono ?_
  rintro e w1 ⟨rfl, rfl⟩
  go_wp2
  go_ret
  exact ⟨rfl, rfl⟩
set_option maxHeartbeats 400000 in
theorem size1 (n : Int) (h1 : 64 ≤ n) (h2 : n < 16384) (w : World) (h : Wd w) : Calls Tryd.prog 75 #[.int .u64 n] w fun e w' => e = .returned (.int .i64 2) ∧ w = w' := by
  have c1 := h.c1
  go_enter Tryd.func75, Tryd.ntmps75
  go_wp2_with fail
  refine (tag1 n h1 h2 _ h).mono ?_
  rintro e w1 ⟨rfl, rfl⟩
  go_wp2
  go_ret
  exact ⟨rfl, rfl⟩
set_option maxHeartbeats 400000 in
theorem size2 (n : Int) (h1 : 16384 ≤ n) (h2 : n < 1073741824) (w : World) (h : Wd w) : Calls Tryd.prog 75 #[.int .u64 n] w fun e w' => e = .returned (.int .i64 4) ∧ w = w' := by
  have c2 := h.c2
  go_enter Tryd.func75, Tryd.ntmps75
  go_wp2_with fail
  refine (tag2 n h1 h2 _ h).mono ?_
  rintro e w1 ⟨rfl, rfl⟩
  go_wp2
  go_ret
  exact ⟨rfl, rfl⟩
set_option maxHeartbeats 400000 in
theorem size3 (n : Int) (h1 : 1073741824 ≤ n) (h2 : n < 4611686018427387904) (w : World) (h : Wd w) : Calls Tryd.prog 75 #[.int .u64 n] w fun e w' => e = .returned (.int .i64 8) ∧ w = w' := by
  have c3 := h.c3
  go_enter Tryd.func75, Tryd.ntmps75
  go_wp2_with fail
  refine (tag3 n h1 h2 _ h).mono ?_
  rintro e w1 ⟨rfl, rfl⟩
  go_wp2
  go_ret
  exact ⟨rfl, rfl⟩
set_option maxHeartbeats 400000 in
theorem sizeN (n : Int) (h1 : 4611686018427387904 ≤ n) (w : World) (h : Wd w) : Calls Tryd.prog 75 #[.int .u64 n] w fun e w' => e = .returned (.int .i64 0) ∧ w = w' := by
  go_enter Tryd.func75, Tryd.ntmps75
  go_wp2_with fail
  refine (tagN n h1 _ h).mono ?_
  rintro e w1 ⟨rfl, rfl⟩
  go_wp2
  go_ret
  exact ⟨rfl, rfl⟩
end Go.Proofs.YtcknklodnfabpaaDoor
