/- The document's Number, Signed, Text; a new writer. -/
import Derived.Test.YtpdpmdbdnpemnaaDoorM2
namespace Go.Proofs.YtpdpmdbdnpemnaaDoor
open Go Go.RowKit
/-- A field's bytes: none, if it has none. -/
def pxN (n : Int) : ByteArray := if okN n then strOfNums (putS n) else ⟨#[]⟩
def pxS (n : Int) : ByteArray := if okS n then strOfNums (putS (zigS n)) else ⟨#[]⟩
def pxT (t : ByteArray) : ByteArray := strOfNums (putS t.size) ++ t
theorem pxN_size (n : Int) : (pxN n).size ≤ 8 := by
  unfold pxN
  split
  · rename_i h
    have := putS_length n h.1 h.2
    rw [strOfNums_size]; omega
  · show 0 ≤ 8; omega
theorem pxS_size (n : Int) : (pxS n).size ≤ 8 := by
  unfold pxS
  split
  · rename_i h
    have hz := zig_bd n h
    have := putS_length _ hz.1 hz.2
    rw [strOfNums_size]; omega
  · show 0 ≤ 8; omega
theorem pxT_size (t : ByteArray) (h : t.size ≤ 1000000) : (pxT t).size ≤ t.size + 8 := by
  unfold pxT
  have := putS_length (t.size : Int) (by omega) (by omega)
  rw [ByteArray.size_append, strOfNums_size]; omega
theorem wS_N (s : ByteArray) (failed : Bool) (n : Int) : wS s failed (decide (okN n)) (strOfNums (putS n)) = wS s failed (decide (okN n)) (pxN n) := by
  unfold pxN
  split
  · rfl
  · rename_i h; rw [decide_eq_false h]; rfl
theorem wS_S (s : ByteArray) (failed : Bool) (n : Int) : wS s failed (decide (okS n)) (strOfNums (putS (zigS n))) = wS s failed (decide (okS n)) (pxS n) := by
  unfold pxS
  split
  · rfl
  · rename_i h; rw [decide_eq_false h]; rfl
theorem wr_new (w : World) : Wr (w.alloc (.cells #[.slice none 0 0, .bool false] 43)) (w.heap.size + 1) w.heap.size (.slice none 0 0) ⟨#[]⟩ false :=
  ⟨by omega, by simp, heap_alloc_new w _, World.ownsRow_nil _ _ _ _⟩
set_option maxHeartbeats 400000 in
theorem rfN_neg (n : Int) (hn : n < 0) (w : World) : Calls Tryd.prog 42 #[.int .i64 n] w fun x w' => x = .returned (.tuple #[.string ⟨#[]⟩, .bool false]) ∧ w = w' := by
  go_enter Tryd.func42, Tryd.ntmps42
  go_wp2
  go_ret2
  exact ⟨rfl, rfl⟩
set_option maxHeartbeats 400000 in
theorem rfN_big (n : Int) (hn : 4611686018427387904 ≤ n) (n2 : n ≤ 9223372036854775807) (w : World) : Calls Tryd.prog 42 #[.int .i64 n] w fun x w' => x = .returned (.tuple #[.string ⟨#[]⟩, .bool false]) ∧ w = w' := by
  go_enter Tryd.func42, Tryd.ntmps42
  go_wp2_with fail
  refine (rputN n hn _).mono ?_
  rintro x w1 ⟨rfl, rfl⟩
  go_wp2
  go_ret2
  exact ⟨rfl, rfl⟩
set_option maxHeartbeats 400000 in
theorem rfN_yes (n : Int) (hn : okN n) (w : World) : Calls Tryd.prog 42 #[.int .i64 n] w fun x w' => x = .returned (.tuple #[.string (strOfNums (putS n)), .bool true]) ∧ Below w.heap.size w w' := by
  have h0 := hn.1
  have h4 := hn.2
  have p1 := Lib.hid (fun w => rput_yes n hn.1 hn.2 w)
  generalize strOfNums (putS n) = px at *
  clear hn
  go_enter Tryd.func42, Tryd.ntmps42
  go_wp2_with fail
  refine (p1.out _).mono ?_
  rintro x w1 ⟨rfl, hb⟩
  have HB := Lib.hid hb
  clear hb
  go_wp2
  go_ret2
  exact ⟨rfl, HB.out⟩
theorem rfN_any (n : Int) (n2 : n ≤ 9223372036854775807) (w : World) : Calls Tryd.prog 42 #[.int .i64 n] w fun x w' => x = .returned (.tuple #[.string (pxN n), .bool (decide (okN n))]) ∧ Below w.heap.size w w' := by
  unfold pxN
  by_cases hn : okN n
  · rw [if_pos hn, decide_eq_true hn]
    exact rfN_yes n hn w
  · rw [if_neg hn, decide_eq_false hn]
    by_cases hg : n < 0
    · refine (rfN_neg n hg w).mono ?_
      rintro x w1 ⟨rfl, rfl⟩
      exact ⟨rfl, Below.refl _ _⟩
    · refine (rfN_big n (by unfold okN at hn; omega) n2 w).mono ?_
      rintro x w1 ⟨rfl, rfl⟩
      exact ⟨rfl, Below.refl _ _⟩
set_option maxHeartbeats 400000 in
theorem rfS_yes (n : Int) (hn : okS n) (w : World) : Calls Tryd.prog 44 #[.int .i64 n] w fun x w' => x = .returned (.tuple #[.string (strOfNums (putS (zigS n))), .bool true]) ∧ Below w.heap.size w w' := by
  have hz := zig_bd n hn
  have p0 := Lib.hid (fun w => rzig_yes n hn.1 hn.2 w)
  have p1 := Lib.hid (fun w => rput_yes (zigS n) hz.1 hz.2 w)
  generalize strOfNums (putS (zigS n)) = px at *
  generalize zigS n = z at *
  clear hn
  go_enter Tryd.func44, Tryd.ntmps44
  go_wp2_with fail
  refine (p0.out _).mono ?_
  rintro x w1 ⟨rfl, rfl⟩
  go_wp2_with fail
  refine (p1.out _).mono ?_
  rintro x w1 ⟨rfl, hb⟩
  have HB := Lib.hid hb
  clear hb
  go_wp2
  go_ret2
  exact ⟨rfl, HB.out⟩
set_option maxHeartbeats 400000 in
theorem rfS_no (n : Int) (hn : ¬ okS n) (w : World) : Calls Tryd.prog 44 #[.int .i64 n] w fun x w' => x = .returned (.tuple #[.string ⟨#[]⟩, .bool false]) ∧ w = w' := by
  have p0 := Lib.hid (fun w => rzig_no n (by unfold okS at hn; omega) w)
  clear hn
  go_enter Tryd.func44, Tryd.ntmps44
  go_wp2_with fail
  refine (p0.out _).mono ?_
  rintro x w1 ⟨rfl, rfl⟩
  go_wp2
  go_ret2
  exact ⟨rfl, rfl⟩
theorem rfS_any (n : Int) (w : World) : Calls Tryd.prog 44 #[.int .i64 n] w fun x w' => x = .returned (.tuple #[.string (pxS n), .bool (decide (okS n))]) ∧ Below w.heap.size w w' := by
  unfold pxS
  by_cases hn : okS n
  · rw [if_pos hn, decide_eq_true hn]
    exact rfS_yes n hn w
  · rw [if_neg hn, decide_eq_false hn]
    refine (rfS_no n hn w).mono ?_
    rintro x w1 ⟨rfl, rfl⟩
    exact ⟨rfl, Below.refl _ _⟩
set_option maxHeartbeats 400000 in
theorem rfT_any (t : ByteArray) (ht : t.size ≤ 1000000) (w : World) : Calls Tryd.prog 43 #[.string t] w fun x w' => x = .returned (.string (pxT t)) ∧ Below w.heap.size w w' := by
  have hok : okN (t.size : Int) := by unfold okN; omega
  have p1 := Lib.hid (fun w => rfN_yes (t.size : Int) hok w)
  have hpl := putS_length (t.size : Int) hok.1 hok.2
  have hps : (strOfNums (putS (t.size : Int))).size ≤ 8 := by rw [strOfNums_size]; omega
  unfold pxT
  clear hpl
  generalize strOfNums (putS (t.size : Int)) = px at *
  clear hok
  go_enter Tryd.func43, Tryd.ntmps43
  go_wp2_with fail
  refine (p1.out _).mono ?_
  rintro x w1 ⟨rfl, hb⟩
  have HB := Lib.hid hb
  clear hb
  go_wp2
  go_ret
  exact ⟨rfl, HB.out⟩
end Go.Proofs.YtpdpmdbdnpemnaaDoor
