/- The walks of the laws PrefixPuts, PrefixGets, PrefixOne. -/
import Derived.Test.YtdkgbocffpiaaaaDoorW8
namespace Go.Proofs.YtdkgbocffpiaaaaDoor
open Go Go.RowKit
set_option maxHeartbeats 1000000 in
theorem walkPuts (n : Int) (h0 : 0 ≤ n) (w : World) (h : Wd w) : Calls Tryd.prog 3 #[.int .u64 n] w fun e w' => e = .returned (.bool true) ∧ Below w.heap.size w w' := by
  by_cases hn : n < 4611686018427387904
  · have p1 := Lib.hid (fun w h => put_yes n h0 hn w h)
    have p2 := Lib.hid (fun w => rput_yes n h0 hn w)
    generalize strOfNums (putS n) = str at *
    go_enter Tryd.func3, Tryd.ntmps3
    go_wp2_with fail
    refine (p1.out _ h).mono ?_
    rintro e w1 ⟨rfl, hb1⟩
    have h1 := h.below hb1
    have HB1 := Lib.hid hb1
    clear hb1
    go_wp2_with fail
    refine (p2.out _).mono ?_
    rintro e w2 ⟨rfl, hb2⟩
    have h2 := h1.below hb2
    have HB2 := Lib.hid (HB1.out.trans (hb2.mono HB1.out.size))
    clear hb2 h1 HB1
    go_wp2_with fail
    refine (awake_yes _ h2).mono ?_
    rintro e w3 ⟨rfl, hb3⟩
    have h3 := h2.below hb3
    have HB3 := Lib.hid (HB2.out.trans (hb3.mono HB2.out.size))
    clear hb3 h2 HB2
    go_wp2_with fail
    refine (size_any n h0 _ h3).mono ?_
    rintro e w4 ⟨rfl, rfl⟩
    go_wp2_with fail
    refine (rsize_any n h0 _).mono ?_
    rintro e w4 ⟨rfl, rfl⟩
    go_wp2
    go_ret
    exact ⟨rfl, HB3.out⟩
  · have hn' : 4611686018427387904 ≤ n := by omega
    go_enter Tryd.func3, Tryd.ntmps3
    go_wp2_with fail
    refine (putN n hn' _ h).mono ?_
    rintro e w1 ⟨rfl, rfl⟩
    go_wp2_with fail
    refine (rputN n hn' _).mono ?_
    rintro e w2 ⟨rfl, rfl⟩
    go_wp2_with fail
    refine (awake_yes _ h).mono ?_
    rintro e w3 ⟨rfl, hb3⟩
    have h3 := h.below hb3
    have HB3 := Lib.hid hb3
    clear hb3
    go_wp2_with fail
    refine (size_any n h0 _ h3).mono ?_
    rintro e w4 ⟨rfl, rfl⟩
    go_wp2_with fail
    refine (rsize_any n h0 _).mono ?_
    rintro e w4 ⟨rfl, rfl⟩
    go_wp2
    go_ret
    exact ⟨rfl, HB3.out⟩
set_option maxHeartbeats 1000000 in
theorem walkGets (s : ByteArray) (a : Int) (hm : s.size ≤ maxLen) (w : World) (h : Wd w) : Calls Tryd.prog 4 #[.string s, .int .i64 a] w fun e w' => e = .returned (.bool true) ∧ Below w.heap.size w w' := by
  have hm2 : s.size ≤ 9223372036854775807 := by unfold maxLen at hm; omega
  by_cases hs : s.size ≤ 300
  · have p1 := Lib.hid (fun w h => get_any s a hm w h)
    have p2 := Lib.hid (fun w => rget_any s a hm w)
    generalize getS s a = g at *
    obtain ⟨x, y, z⟩ := g
    clear hm
    go_enter Tryd.func4, Tryd.ntmps4
    go_wp2_with fail
    refine (awake_yes _ h).mono ?_
    rintro e w3 ⟨rfl, hb3⟩
    have h3 := h.below hb3
    have HB3 := Lib.hid hb3
    clear hb3 h
    go_wp2_with fail
    refine (p1.out _ h3).mono ?_
    rintro e w4 ⟨rfl, rfl⟩
    go_wp2_with fail
    refine (p2.out _).mono ?_
    rintro e w4 ⟨rfl, rfl⟩
    go_wp2
    go_ret
    exact ⟨rfl, HB3.out⟩
  · have hs' : 300 < s.size := by omega
    clear hm
    go_enter Tryd.func4, Tryd.ntmps4
    go_wp2_with fail
    refine (awake_yes _ h).mono ?_
    rintro e w3 ⟨rfl, hb3⟩
    have h3 := h.below hb3
    have HB3 := Lib.hid hb3
    clear hb3 h
    go_wp2_with fail
    refine (awake_yes _ h3).mono ?_
    rintro e w4 ⟨rfl, hb4⟩
    have HB4 := Lib.hid (HB3.out.trans (hb4.mono HB3.out.size))
    clear hb4
    go_wp2
    go_ret
    exact ⟨rfl, HB4.out⟩
end Go.Proofs.YtdkgbocffpiaaaaDoor
