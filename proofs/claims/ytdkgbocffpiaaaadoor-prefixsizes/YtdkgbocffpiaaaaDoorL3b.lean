/- The walk of the law PrefixSizes. -/
import Derived.Test.YtdkgbocffpiaaaaDoorA7
import Derived.Test.YtdkgbocffpiaaaaDoorL3
namespace Go.Proofs.YtdkgbocffpiaaaaDoor
open Go Go.RowKit
theorem sizeZ_eq (n : Int) : sizeZ n = if n < 64 then 1 else if n < 16384 then 2 else if n < 1073741824 then 4 else if n < 4611686018427387904 then 8 else 0 := rfl
theorem sizeZ_le (n m : Int) (h : n ≤ m) (hm : m < 4611686018427387904) : sizeZ n ≤ sizeZ m := by
  unfold sizeZ
  (repeat' split) <;> omega
set_option maxHeartbeats 1000000 in
set_option maxRecDepth 100000 in
theorem sizes_ltA (n m : Int) (a b : ByteArray) (h0 : 0 ≤ n) (_hc : n < m) (_s1 : ((a.size : Int) == sizeZ n) = true) (_s2 : decide (sizeZ n ≤ sizeZ m) = true) (_q3 : (a.toList == b.toList) = false) (_q4 : (n == m) = false) (_q5 : a.size < b.size) (P1 : Hid (∀ w, Wd w → Calls Tryd.prog 11 #[.int .u64 n] w fun e w' => e = .returned (.tuple #[.string a, .int .i64 0]) ∧ Below w.heap.size w w')) (P2 : Hid (∀ w, Wd w → Calls Tryd.prog 11 #[.int .u64 m] w fun e w' => e = .returned (.tuple #[.string b, .int .i64 0]) ∧ Below w.heap.size w w')) (w : World) (hwd : Wd w) : Calls Tryd.prog 7 #[.int .u64 n, .int .u64 m] w fun e w' => e = .returned (.bool true) ∧ Below w.heap.size w w' := by
  go_enter Tryd.func7, Tryd.ntmps7
  go_wp2_with fail
  refine (P1.out _ hwd).mono ?_
  rintro e w1 ⟨rfl, hb1⟩
  have h1 := hwd.below hb1
  have HB1 := Lib.hid hb1
  clear hb1 hwd
  go_wp2_with fail
  refine (P2.out _ h1).mono ?_
  rintro e w2 ⟨rfl, hb2⟩
  have h2 := h1.below hb2
  have HB2 := Lib.hid (HB1.out.trans (hb2.mono HB1.out.size))
  clear hb2 h1 HB1
  go_wp2_with fail
  refine (awake_yes _ h2).mono ?_
  rintro e w3 ⟨rfl, hb3⟩
  have h3 := h2.below hb3
  have HB3 := Lib.hid (HB2.out.trans (hb3.mono HB2.out.size))
  clear hb3 h2 HB2
  go_wp2_with fail
  refine (size_any n h0 _ h3).mono ?_
  rintro e w4 ⟨rfl, rfl⟩
  go_wp2_with fail
  refine (size_any n h0 _ h3).mono ?_
  rintro e w4 ⟨rfl, rfl⟩
  go_wp2_with fail
  refine (size_any m (by omega) _ h3).mono ?_
  rintro e w4 ⟨rfl, rfl⟩
  go_wp2
  go_ret
  exact ⟨rfl, HB3.out⟩
set_option maxHeartbeats 1000000 in
set_option maxRecDepth 100000 in
theorem sizes_ltB (n m : Int) (a b : ByteArray) (h0 : 0 ≤ n) (_hc : n < m) (_s1 : ((a.size : Int) == sizeZ n) = true) (_s2 : decide (sizeZ n ≤ sizeZ m) = true) (_q3 : (a.toList == b.toList) = false) (_q4 : (n == m) = false) (_q5 : b.size ≤ a.size) (_q6 : Op.bytesLess a.toList b.toList = true) (P1 : Hid (∀ w, Wd w → Calls Tryd.prog 11 #[.int .u64 n] w fun e w' => e = .returned (.tuple #[.string a, .int .i64 0]) ∧ Below w.heap.size w w')) (P2 : Hid (∀ w, Wd w → Calls Tryd.prog 11 #[.int .u64 m] w fun e w' => e = .returned (.tuple #[.string b, .int .i64 0]) ∧ Below w.heap.size w w')) (w : World) (hwd : Wd w) : Calls Tryd.prog 7 #[.int .u64 n, .int .u64 m] w fun e w' => e = .returned (.bool true) ∧ Below w.heap.size w w' := by
  go_enter Tryd.func7, Tryd.ntmps7
  go_wp2_with fail
  refine (P1.out _ hwd).mono ?_
  rintro e w1 ⟨rfl, hb1⟩
  have h1 := hwd.below hb1
  have HB1 := Lib.hid hb1
  clear hb1 hwd
  go_wp2_with fail
  refine (P2.out _ h1).mono ?_
  rintro e w2 ⟨rfl, hb2⟩
  have h2 := h1.below hb2
  have HB2 := Lib.hid (HB1.out.trans (hb2.mono HB1.out.size))
  clear hb2 h1 HB1
  go_wp2_with fail
  refine (awake_yes _ h2).mono ?_
  rintro e w3 ⟨rfl, hb3⟩
  have h3 := h2.below hb3
  have HB3 := Lib.hid (HB2.out.trans (hb3.mono HB2.out.size))
  clear hb3 h2 HB2
  go_wp2_with fail
  refine (size_any n h0 _ h3).mono ?_
  rintro e w4 ⟨rfl, rfl⟩
  go_wp2_with fail
  refine (size_any n h0 _ h3).mono ?_
  rintro e w4 ⟨rfl, rfl⟩
  go_wp2_with fail
  refine (size_any m (by omega) _ h3).mono ?_
  rintro e w4 ⟨rfl, rfl⟩
  go_wp2
  go_ret
  exact ⟨rfl, HB3.out⟩
set_option maxHeartbeats 1000000 in
set_option maxRecDepth 100000 in
theorem sizes_lt_no0 (n m : Int) (a : ByteArray) (_hc : n < m) (P1 : Hid (∀ w, Wd w → Calls Tryd.prog 11 #[.int .u64 n] w fun e w' => e = .returned (.tuple #[.string a, .int .i64 0]) ∧ Below w.heap.size w w')) (P2 : Hid (∀ w, Wd w → Calls Tryd.prog 11 #[.int .u64 m] w fun e w' => e = .returned (.tuple #[.string ⟨#[]⟩, .int .i64 1]) ∧ Below w.heap.size w w')) (w : World) (hwd : Wd w) : Calls Tryd.prog 7 #[.int .u64 n, .int .u64 m] w fun e w' => e = .returned (.bool true) ∧ Below w.heap.size w w' := by
  go_enter Tryd.func7, Tryd.ntmps7
  go_wp2_with fail
  refine (P1.out _ hwd).mono ?_
  rintro e w1 ⟨rfl, hb1⟩
  have h1 := hwd.below hb1
  have HB1 := Lib.hid hb1
  clear hb1 hwd
  go_wp2_with fail
  refine (P2.out _ h1).mono ?_
  rintro e w2 ⟨rfl, hb2⟩
  have h2 := h1.below hb2
  have HB2 := Lib.hid (HB1.out.trans (hb2.mono HB1.out.size))
  clear hb2 h1 HB1
  go_wp2_with fail
  refine (awake_yes _ h2).mono ?_
  rintro e w3 ⟨rfl, hb3⟩
  have h3 := h2.below hb3
  have HB3 := Lib.hid (HB2.out.trans (hb3.mono HB2.out.size))
  clear hb3 h2 HB2
  go_wp2_with fail
  refine (awake_yes _ h3).mono ?_
  rintro e w4 ⟨rfl, hb4⟩
  have HB4 := Lib.hid (HB3.out.trans (hb4.mono HB3.out.size))
  clear hb4
  go_wp2
  go_ret
  exact ⟨rfl, HB4.out⟩
set_option maxHeartbeats 1000000 in
set_option maxRecDepth 100000 in
theorem sizes_lt_no1 (n m : Int)  (_hc : n < m) (P1 : Hid (∀ w, Wd w → Calls Tryd.prog 11 #[.int .u64 n] w fun e w' => e = .returned (.tuple #[.string ⟨#[]⟩, .int .i64 1]) ∧ Below w.heap.size w w')) (P2 : Hid (∀ w, Wd w → Calls Tryd.prog 11 #[.int .u64 m] w fun e w' => e = .returned (.tuple #[.string ⟨#[]⟩, .int .i64 1]) ∧ Below w.heap.size w w')) (w : World) (hwd : Wd w) : Calls Tryd.prog 7 #[.int .u64 n, .int .u64 m] w fun e w' => e = .returned (.bool true) ∧ Below w.heap.size w w' := by
  go_enter Tryd.func7, Tryd.ntmps7
  go_wp2_with fail
  refine (P1.out _ hwd).mono ?_
  rintro e w1 ⟨rfl, hb1⟩
  have h1 := hwd.below hb1
  have HB1 := Lib.hid hb1
  clear hb1 hwd
  go_wp2_with fail
  refine (P2.out _ h1).mono ?_
  rintro e w2 ⟨rfl, hb2⟩
  have h2 := h1.below hb2
  have HB2 := Lib.hid (HB1.out.trans (hb2.mono HB1.out.size))
  clear hb2 h1 HB1
  go_wp2_with fail
  refine (awake_yes _ h2).mono ?_
  rintro e w3 ⟨rfl, hb3⟩
  have h3 := h2.below hb3
  have HB3 := Lib.hid (HB2.out.trans (hb3.mono HB2.out.size))
  clear hb3 h2 HB2
  go_wp2_with fail
  refine (awake_yes _ h3).mono ?_
  rintro e w4 ⟨rfl, hb4⟩
  have HB4 := Lib.hid (HB3.out.trans (hb4.mono HB3.out.size))
  clear hb4
  go_wp2
  go_ret
  exact ⟨rfl, HB4.out⟩
set_option maxHeartbeats 1000000 in
set_option maxRecDepth 100000 in
theorem sizes_gtA (n m : Int) (a b : ByteArray) (h0 : 0 ≤ m) (_hc : m < n) (_s1 : ((a.size : Int) == sizeZ m) = true) (_s2 : decide (sizeZ m ≤ sizeZ n) = true) (_q3 : (a.toList == b.toList) = false) (_q4 : (n == m) = false) (_q5 : a.size < b.size) (P1 : Hid (∀ w, Wd w → Calls Tryd.prog 11 #[.int .u64 m] w fun e w' => e = .returned (.tuple #[.string a, .int .i64 0]) ∧ Below w.heap.size w w')) (P2 : Hid (∀ w, Wd w → Calls Tryd.prog 11 #[.int .u64 n] w fun e w' => e = .returned (.tuple #[.string b, .int .i64 0]) ∧ Below w.heap.size w w')) (w : World) (hwd : Wd w) : Calls Tryd.prog 7 #[.int .u64 n, .int .u64 m] w fun e w' => e = .returned (.bool true) ∧ Below w.heap.size w w' := by
  go_enter Tryd.func7, Tryd.ntmps7
  go_wp2_with fail
  refine (P1.out _ hwd).mono ?_
  rintro e w1 ⟨rfl, hb1⟩
  have h1 := hwd.below hb1
  have HB1 := Lib.hid hb1
  clear hb1 hwd
  go_wp2_with fail
  refine (P2.out _ h1).mono ?_
  rintro e w2 ⟨rfl, hb2⟩
  have h2 := h1.below hb2
  have HB2 := Lib.hid (HB1.out.trans (hb2.mono HB1.out.size))
  clear hb2 h1 HB1
  go_wp2_with fail
  refine (awake_yes _ h2).mono ?_
  rintro e w3 ⟨rfl, hb3⟩
  have h3 := h2.below hb3
  have HB3 := Lib.hid (HB2.out.trans (hb3.mono HB2.out.size))
  clear hb3 h2 HB2
  go_wp2_with fail
  refine (size_any m h0 _ h3).mono ?_
  rintro e w4 ⟨rfl, rfl⟩
  go_wp2_with fail
  refine (size_any m h0 _ h3).mono ?_
  rintro e w4 ⟨rfl, rfl⟩
  go_wp2_with fail
  refine (size_any n (by omega) _ h3).mono ?_
  rintro e w4 ⟨rfl, rfl⟩
  go_wp2
  go_ret
  exact ⟨rfl, HB3.out⟩
set_option maxHeartbeats 1000000 in
set_option maxRecDepth 100000 in
theorem sizes_gtB (n m : Int) (a b : ByteArray) (h0 : 0 ≤ m) (_hc : m < n) (_s1 : ((a.size : Int) == sizeZ m) = true) (_s2 : decide (sizeZ m ≤ sizeZ n) = true) (_q3 : (a.toList == b.toList) = false) (_q4 : (n == m) = false) (_q5 : b.size ≤ a.size) (_q6 : Op.bytesLess a.toList b.toList = true) (P1 : Hid (∀ w, Wd w → Calls Tryd.prog 11 #[.int .u64 m] w fun e w' => e = .returned (.tuple #[.string a, .int .i64 0]) ∧ Below w.heap.size w w')) (P2 : Hid (∀ w, Wd w → Calls Tryd.prog 11 #[.int .u64 n] w fun e w' => e = .returned (.tuple #[.string b, .int .i64 0]) ∧ Below w.heap.size w w')) (w : World) (hwd : Wd w) : Calls Tryd.prog 7 #[.int .u64 n, .int .u64 m] w fun e w' => e = .returned (.bool true) ∧ Below w.heap.size w w' := by
  go_enter Tryd.func7, Tryd.ntmps7
  go_wp2_with fail
  refine (P1.out _ hwd).mono ?_
  rintro e w1 ⟨rfl, hb1⟩
  have h1 := hwd.below hb1
  have HB1 := Lib.hid hb1
  clear hb1 hwd
  go_wp2_with fail
  refine (P2.out _ h1).mono ?_
  rintro e w2 ⟨rfl, hb2⟩
  have h2 := h1.below hb2
  have HB2 := Lib.hid (HB1.out.trans (hb2.mono HB1.out.size))
  clear hb2 h1 HB1
  go_wp2_with fail
  refine (awake_yes _ h2).mono ?_
  rintro e w3 ⟨rfl, hb3⟩
  have h3 := h2.below hb3
  have HB3 := Lib.hid (HB2.out.trans (hb3.mono HB2.out.size))
  clear hb3 h2 HB2
  go_wp2_with fail
  refine (size_any m h0 _ h3).mono ?_
  rintro e w4 ⟨rfl, rfl⟩
  go_wp2_with fail
  refine (size_any m h0 _ h3).mono ?_
  rintro e w4 ⟨rfl, rfl⟩
  go_wp2_with fail
  refine (size_any n (by omega) _ h3).mono ?_
  rintro e w4 ⟨rfl, rfl⟩
  go_wp2
  go_ret
  exact ⟨rfl, HB3.out⟩
set_option maxHeartbeats 1000000 in
set_option maxRecDepth 100000 in
theorem sizes_gt_no0 (n m : Int) (a : ByteArray) (_hc : m < n) (P1 : Hid (∀ w, Wd w → Calls Tryd.prog 11 #[.int .u64 m] w fun e w' => e = .returned (.tuple #[.string a, .int .i64 0]) ∧ Below w.heap.size w w')) (P2 : Hid (∀ w, Wd w → Calls Tryd.prog 11 #[.int .u64 n] w fun e w' => e = .returned (.tuple #[.string ⟨#[]⟩, .int .i64 1]) ∧ Below w.heap.size w w')) (w : World) (hwd : Wd w) : Calls Tryd.prog 7 #[.int .u64 n, .int .u64 m] w fun e w' => e = .returned (.bool true) ∧ Below w.heap.size w w' := by
  go_enter Tryd.func7, Tryd.ntmps7
  go_wp2_with fail
  refine (P1.out _ hwd).mono ?_
  rintro e w1 ⟨rfl, hb1⟩
  have h1 := hwd.below hb1
  have HB1 := Lib.hid hb1
  clear hb1 hwd
  go_wp2_with fail
  refine (P2.out _ h1).mono ?_
  rintro e w2 ⟨rfl, hb2⟩
  have h2 := h1.below hb2
  have HB2 := Lib.hid (HB1.out.trans (hb2.mono HB1.out.size))
  clear hb2 h1 HB1
  go_wp2_with fail
  refine (awake_yes _ h2).mono ?_
  rintro e w3 ⟨rfl, hb3⟩
  have h3 := h2.below hb3
  have HB3 := Lib.hid (HB2.out.trans (hb3.mono HB2.out.size))
  clear hb3 h2 HB2
  go_wp2_with fail
  refine (awake_yes _ h3).mono ?_
  rintro e w4 ⟨rfl, hb4⟩
  have HB4 := Lib.hid (HB3.out.trans (hb4.mono HB3.out.size))
  clear hb4
  go_wp2
  go_ret
  exact ⟨rfl, HB4.out⟩
set_option maxHeartbeats 1000000 in
set_option maxRecDepth 100000 in
theorem sizes_gt_no1 (n m : Int)  (_hc : m < n) (P1 : Hid (∀ w, Wd w → Calls Tryd.prog 11 #[.int .u64 m] w fun e w' => e = .returned (.tuple #[.string ⟨#[]⟩, .int .i64 1]) ∧ Below w.heap.size w w')) (P2 : Hid (∀ w, Wd w → Calls Tryd.prog 11 #[.int .u64 n] w fun e w' => e = .returned (.tuple #[.string ⟨#[]⟩, .int .i64 1]) ∧ Below w.heap.size w w')) (w : World) (hwd : Wd w) : Calls Tryd.prog 7 #[.int .u64 n, .int .u64 m] w fun e w' => e = .returned (.bool true) ∧ Below w.heap.size w w' := by
  go_enter Tryd.func7, Tryd.ntmps7
  go_wp2_with fail
  refine (P1.out _ hwd).mono ?_
  rintro e w1 ⟨rfl, hb1⟩
  have h1 := hwd.below hb1
  have HB1 := Lib.hid hb1
  clear hb1 hwd
  go_wp2_with fail
  refine (P2.out _ h1).mono ?_
  rintro e w2 ⟨rfl, hb2⟩
  have h2 := h1.below hb2
  have HB2 := Lib.hid (HB1.out.trans (hb2.mono HB1.out.size))
  clear hb2 h1 HB1
  go_wp2_with fail
  refine (awake_yes _ h2).mono ?_
  rintro e w3 ⟨rfl, hb3⟩
  have h3 := h2.below hb3
  have HB3 := Lib.hid (HB2.out.trans (hb3.mono HB2.out.size))
  clear hb3 h2 HB2
  go_wp2_with fail
  refine (awake_yes _ h3).mono ?_
  rintro e w4 ⟨rfl, hb4⟩
  have HB4 := Lib.hid (HB3.out.trans (hb4.mono HB3.out.size))
  clear hb4
  go_wp2
  go_ret
  exact ⟨rfl, HB4.out⟩
set_option maxHeartbeats 1000000 in
set_option maxRecDepth 100000 in
theorem sizes_eq (n : Int) (a : ByteArray) (h0 : 0 ≤ n)  (_s1 : ((a.size : Int) == sizeZ n) = true) (_s2 : decide (sizeZ n ≤ sizeZ n) = true)   (P1 : Hid (∀ w, Wd w → Calls Tryd.prog 11 #[.int .u64 n] w fun e w' => e = .returned (.tuple #[.string a, .int .i64 0]) ∧ Below w.heap.size w w')) (P2 : Hid (∀ w, Wd w → Calls Tryd.prog 11 #[.int .u64 n] w fun e w' => e = .returned (.tuple #[.string a, .int .i64 0]) ∧ Below w.heap.size w w')) (w : World) (hwd : Wd w) : Calls Tryd.prog 7 #[.int .u64 n, .int .u64 n] w fun e w' => e = .returned (.bool true) ∧ Below w.heap.size w w' := by
  go_enter Tryd.func7, Tryd.ntmps7
  go_wp2_with fail
  refine (P1.out _ hwd).mono ?_
  rintro e w1 ⟨rfl, hb1⟩
  have h1 := hwd.below hb1
  have HB1 := Lib.hid hb1
  clear hb1 hwd
  go_wp2_with fail
  refine (P2.out _ h1).mono ?_
  rintro e w2 ⟨rfl, hb2⟩
  have h2 := h1.below hb2
  have HB2 := Lib.hid (HB1.out.trans (hb2.mono HB1.out.size))
  clear hb2 h1 HB1
  go_wp2_with fail
  refine (awake_yes _ h2).mono ?_
  rintro e w3 ⟨rfl, hb3⟩
  have h3 := h2.below hb3
  have HB3 := Lib.hid (HB2.out.trans (hb3.mono HB2.out.size))
  clear hb3 h2 HB2
  go_wp2_with fail
  refine (size_any n h0 _ h3).mono ?_
  rintro e w4 ⟨rfl, rfl⟩
  go_wp2_with fail
  refine (size_any n h0 _ h3).mono ?_
  rintro e w4 ⟨rfl, rfl⟩
  go_wp2_with fail
  refine (size_any n (by omega) _ h3).mono ?_
  rintro e w4 ⟨rfl, rfl⟩
  go_wp2
  go_ret
  exact ⟨rfl, HB3.out⟩
set_option maxHeartbeats 1000000 in
set_option maxRecDepth 100000 in
theorem sizes_eq_no1 (n : Int)   (P1 : Hid (∀ w, Wd w → Calls Tryd.prog 11 #[.int .u64 n] w fun e w' => e = .returned (.tuple #[.string ⟨#[]⟩, .int .i64 1]) ∧ Below w.heap.size w w')) (P2 : Hid (∀ w, Wd w → Calls Tryd.prog 11 #[.int .u64 n] w fun e w' => e = .returned (.tuple #[.string ⟨#[]⟩, .int .i64 1]) ∧ Below w.heap.size w w')) (w : World) (hwd : Wd w) : Calls Tryd.prog 7 #[.int .u64 n, .int .u64 n] w fun e w' => e = .returned (.bool true) ∧ Below w.heap.size w w' := by
  go_enter Tryd.func7, Tryd.ntmps7
  go_wp2_with fail
  refine (P1.out _ hwd).mono ?_
  rintro e w1 ⟨rfl, hb1⟩
  have h1 := hwd.below hb1
  have HB1 := Lib.hid hb1
  clear hb1 hwd
  go_wp2_with fail
  refine (P2.out _ h1).mono ?_
  rintro e w2 ⟨rfl, hb2⟩
  have h2 := h1.below hb2
  have HB2 := Lib.hid (HB1.out.trans (hb2.mono HB1.out.size))
  clear hb2 h1 HB1
  go_wp2_with fail
  refine (awake_yes _ h2).mono ?_
  rintro e w3 ⟨rfl, hb3⟩
  have h3 := h2.below hb3
  have HB3 := Lib.hid (HB2.out.trans (hb3.mono HB2.out.size))
  clear hb3 h2 HB2
  go_wp2_with fail
  refine (awake_yes _ h3).mono ?_
  rintro e w4 ⟨rfl, hb4⟩
  have HB4 := Lib.hid (HB3.out.trans (hb4.mono HB3.out.size))
  clear hb4
  go_wp2
  go_ret
  exact ⟨rfl, HB4.out⟩
theorem put_no (n : Int) (h : 4611686018427387904 ≤ n) (w : World) (hw : Wd w) : Calls Tryd.prog 11 #[.int .u64 n] w fun e w' => e = .returned (.tuple #[.string ⟨#[]⟩, .int .i64 1]) ∧ Below w.heap.size w w' := by
  refine (putN n h w hw).mono ?_
  rintro e w1 ⟨rfl, rfl⟩
  exact ⟨rfl, Below.refl _ _⟩
theorem walkSizes (n m : Int) (h0 : 0 ≤ n) (h1 : 0 ≤ m) (w : World) (hwd : Wd w) : Calls Tryd.prog 7 #[.int .u64 n, .int .u64 m] w fun e w' => e = .returned (.bool true) ∧ Below w.heap.size w w' := by
  have hsz : ∀ x : Int, 0 ≤ x → x < 4611686018427387904 → (((strOfNums (putS x)).size : Int) == sizeZ x) = true := fun x hx hx4 => by
    rw [beq_iff_eq, size_put x hx hx4, sizeZ_eq]
  have hle : ∀ x y : Int, x ≤ y → y < 4611686018427387904 → decide (sizeZ x ≤ sizeZ y) = true := fun x y h h4 => decide_eq_true (sizeZ_le x y h h4)
  rcases Int.lt_trichotomy n m with h | h | h
  · by_cases hm : m < 4611686018427387904
    · obtain ⟨q3, q5 | ⟨q5, q6⟩⟩ := puts_lt n m h0 h hm
      · exact sizes_ltA n m _ _ h0 h (hsz n h0 (by omega)) (hle n m (by omega) hm) q3 (by rw [beq_eq_false_iff_ne]; omega) q5 (Lib.hid (put_yes n h0 (by omega))) (Lib.hid (put_yes m h1 hm)) w hwd
      · exact sizes_ltB n m _ _ h0 h (hsz n h0 (by omega)) (hle n m (by omega) hm) q3 (by rw [beq_eq_false_iff_ne]; omega) q5 q6 (Lib.hid (put_yes n h0 (by omega))) (Lib.hid (put_yes m h1 hm)) w hwd
    · by_cases hn : n < 4611686018427387904
      · exact sizes_lt_no0 n m _ h (Lib.hid (put_yes n h0 hn)) (Lib.hid (put_no m (by omega))) w hwd
      · exact sizes_lt_no1 n m h (Lib.hid (put_no n (by omega))) (Lib.hid (put_no m (by omega))) w hwd
  · subst h
    by_cases hn : n < 4611686018427387904
    · exact sizes_eq n _ h0 (hsz n h0 hn) (hle n n (by omega) hn) (Lib.hid (put_yes n h0 hn)) (Lib.hid (put_yes n h0 hn)) w hwd
    · exact sizes_eq_no1 n (Lib.hid (put_no n (by omega))) (Lib.hid (put_no n (by omega))) w hwd
  · by_cases hm : n < 4611686018427387904
    · obtain ⟨q3, q5 | ⟨q5, q6⟩⟩ := puts_lt m n h1 h hm
      · exact sizes_gtA n m _ _ h1 h (hsz m h1 (by omega)) (hle m n (by omega) hm) q3 (by rw [beq_eq_false_iff_ne]; omega) q5 (Lib.hid (put_yes m h1 (by omega))) (Lib.hid (put_yes n h0 hm)) w hwd
      · exact sizes_gtB n m _ _ h1 h (hsz m h1 (by omega)) (hle m n (by omega) hm) q3 (by rw [beq_eq_false_iff_ne]; omega) q5 q6 (Lib.hid (put_yes m h1 (by omega))) (Lib.hid (put_yes n h0 hm)) w hwd
    · by_cases hn : m < 4611686018427387904
      · exact sizes_gt_no0 n m _ h (Lib.hid (put_yes m h1 hn)) (Lib.hid (put_no n (by omega))) w hwd
      · exact sizes_gt_no1 n m h (Lib.hid (put_no m (by omega))) (Lib.hid (put_no n (by omega))) w hwd
end Go.Proofs.YtdkgbocffpiaaaaDoor
