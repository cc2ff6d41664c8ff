/- The walks of the laws PrefixBack, PrefixOne, PrefixFront. -/
import Derived.Test.YtdkgbocffpiaaaaDoorA6
import Derived.Test.YtdkgbocffpiaaaaDoorW8
namespace Go.Proofs.YtdkgbocffpiaaaaDoor
open Go Go.RowKit
set_option maxHeartbeats 1000000 in
set_option maxRecDepth 100000 in
theorem walkBack (n : Int) (more : ByteArray) (h0 : 0 ≤ n) (hm : more.size ≤ maxLen) (w : World) (h : Wd w) : Calls Tryd.prog 5 #[.int .u64 n, .string more] w fun e w' => e = .returned (.bool true) ∧ Below w.heap.size w w' := by
  have hm2 : more.size ≤ 9223372036854775807 := by unfold maxLen at hm; omega
  clear hm
  by_cases hs : more.size ≤ 100
  · by_cases hn : n < 4611686018427387904
    · have hl := putS_length n h0 hn
      have p1 := Lib.hid (fun w h => put_yes n h0 hn w h)
      have p2 := Lib.hid (getS_mid n h0 hn more more)
      have z1 : (strOfNums (putS n)).size = (putS n).length := strOfNums_size _
      generalize strOfNums (putS n) = str at *
      generalize (putS n).length = L at *
      go_enter Tryd.func5, Tryd.ntmps5
      go_wp2_with fail
      refine (awake_yes _ h).mono ?_
      rintro e w3 ⟨rfl, hb3⟩
      have h3 := h.below hb3
      have HB3 := Lib.hid hb3
      clear hb3 h
      go_wp2_with fail
      refine (p1.out _ h3).mono ?_
      rintro e w4 ⟨rfl, hb4⟩
      have h4 := h3.below hb4
      have HB4 := Lib.hid (HB3.out.trans (hb4.mono HB3.out.size))
      clear hb4 HB3 h3
      go_wp2_with fail
      refine (get_is _ _ _ _ _ (by simp only [ByteArray.size_append, z1]; unfold maxLen; omega) p2.out _ h4).mono ?_
      rintro e w5 ⟨rfl, rfl⟩
      go_wp2
      go_ret
      exact ⟨rfl, HB4.out⟩
    · have hn' : 4611686018427387904 ≤ n := by omega
      go_enter Tryd.func5, Tryd.ntmps5
      go_wp2_with fail
      refine (awake_yes _ h).mono ?_
      rintro e w3 ⟨rfl, hb3⟩
      have h3 := h.below hb3
      have HB3 := Lib.hid hb3
      clear hb3 h
      go_wp2_with fail
      refine (putN n hn' _ h3).mono ?_
      rintro e w4 ⟨rfl, rfl⟩
      go_wp2
      go_ret
      exact ⟨rfl, HB3.out⟩
  · have hs' : 100 < more.size := by omega
    go_enter Tryd.func5, Tryd.ntmps5
    go_wp2_with fail
    refine (awake_yes _ h).mono ?_
    rintro e w3 ⟨rfl, hb3⟩
    have h3 := h.below hb3
    have HB3 := Lib.hid hb3
    clear hb3 h
    go_wp2_with fail
    refine (awake_yes _ h3).mono ?_
    rintro e w4 ⟨rfl, hb4⟩
    have HB4 := Lib.hid (HB3.out.trans (hb4.mono HB3.out.size))
    clear hb4
    go_wp2
    go_ret
    exact ⟨rfl, HB4.out⟩
set_option maxHeartbeats 1000000 in
set_option maxRecDepth 100000 in
theorem walkOne (s : ByteArray) (hm : s.size ≤ maxLen) (w : World) (h : Wd w) : Calls Tryd.prog 6 #[.string s] w fun e w' => e = .returned (.bool true) ∧ Below w.heap.size w w' := by
  have hm2 : s.size ≤ 9223372036854775807 := by unfold maxLen at hm; omega
  by_cases hs : s.size ≤ 300
  · rcases getS_err s 0 with hz | ⟨e, he, hz⟩
    · obtain ⟨W, hW1, hW2, hn0, hn1, hx, hstr⟩ := putS_got s hz
      have p1 := Lib.hid (fun w h => get_any s 0 hm w h)
      have p2 := Lib.hid (fun w h => put_yes _ hn0 hn1 w h)
      rw [hz, hx] at p1
      rw [hstr] at p2
      clear hx hz hstr
      generalize (getS s 0).1 = n at *
      clear hm
      have hW3 : (W : Int) ≤ (s.size : Int) := by omega
      have hW4 : (1 : Int) ≤ (W : Int) := by omega
      go_enter Tryd.func6, Tryd.ntmps6
      go_wp2_with fail
      refine (awake_yes _ h).mono ?_
      rintro e w3 ⟨rfl, hb3⟩
      have h3 := h.below hb3
      have HB3 := Lib.hid hb3
      clear hb3 h
      go_wp2_with fail
      refine (p1.out _ h3).mono ?_
      rintro e w4 ⟨rfl, rfl⟩
      go_wp2_with fail
      refine (p2.out _ h3).mono ?_
      rintro e w4 ⟨rfl, hb4⟩
      have HB4 := Lib.hid (HB3.out.trans (hb4.mono HB3.out.size))
      clear hb4 HB3 h3
      go_wp2
      go_ret
      exact ⟨rfl, HB4.out⟩
    · have p1 := Lib.hid (fun w h => get_is s 0 0 0 e hm hz w h)
      have he1 : (e != 0) = true := by rw [bne_iff_ne]; omega
      clear hz hm
      go_enter Tryd.func6, Tryd.ntmps6
      go_wp2_with fail
      refine (awake_yes _ h).mono ?_
      rintro e w3 ⟨rfl, hb3⟩
      have h3 := h.below hb3
      have HB3 := Lib.hid hb3
      clear hb3 h
      go_wp2_with fail
      refine (p1.out _ h3).mono ?_
      rintro e w4 ⟨rfl, rfl⟩
      go_wp2
      go_ret
      exact ⟨rfl, HB3.out⟩
  · have hs' : 300 < s.size := by omega
    clear hm
    go_enter Tryd.func6, Tryd.ntmps6
    go_wp2_with fail
    refine (awake_yes _ h).mono ?_
    rintro e w3 ⟨rfl, hb3⟩
    have h3 := h.below hb3
    have HB3 := Lib.hid hb3
    clear hb3 h
    go_wp2_with fail
    refine (awake_yes _ h3).mono ?_
    rintro e w4 ⟨rfl, hb4⟩
    have HB4 := Lib.hid (HB3.out.trans (hb4.mono HB3.out.size))
    clear hb4
    go_wp2
    go_ret
    exact ⟨rfl, HB4.out⟩
set_option maxHeartbeats 1000000 in
set_option maxRecDepth 100000 in
theorem walkFront (n cut : Int) (more : ByteArray) (h0 : 0 ≤ n) (hm : more.size ≤ maxLen) (w : World) (h : Wd w) : Calls Tryd.prog 9 #[.int .u64 n, .int .i64 cut, .string more] w fun e w' => e = .returned (.bool true) ∧ Below w.heap.size w w' := by
  have hm2 : more.size ≤ 9223372036854775807 := by unfold maxLen at hm; omega
  clear hm
  by_cases hn : n < 4611686018427387904
  · have hl := putS_length n h0 hn
    have p1 := Lib.hid (fun w h => put_yes n h0 hn w h)
    have p2 := Lib.hid (getS_front n h0 hn more)
    have p3 := Lib.hid (getS_cut n h0 hn)
    have z1 : (strOfNums (putS n)).size = (putS n).length := strOfNums_size _
    generalize strOfNums (putS n) = str at *
    generalize (putS n).length = L at *
    by_cases hc0 : cut < 0
    · clear p2 p3
      go_enter Tryd.func9, Tryd.ntmps9
      go_wp2_with fail
      refine (p1.out _ h).mono ?_
      rintro e w1 ⟨rfl, hb1⟩
      have h1 := h.below hb1
      have HB1 := Lib.hid hb1
      clear hb1 h
      go_wp2_with fail
      refine (awake_yes _ h1).mono ?_
      rintro e w3 ⟨rfl, hb3⟩
      have h3 := h1.below hb3
      have HB3 := Lib.hid (HB1.out.trans (hb3.mono HB1.out.size))
      clear hb3 h1 HB1
      go_wp2_with fail
      refine (awake_yes _ h3).mono ?_
      rintro e w4 ⟨rfl, hb4⟩
      have HB4 := Lib.hid (HB3.out.trans (hb4.mono HB3.out.size))
      clear hb4
      go_wp2
      go_ret
      exact ⟨rfl, HB4.out⟩
    by_cases hc1 : (L : Int) ≤ cut
    · clear p2 p3
      go_enter Tryd.func9, Tryd.ntmps9
      go_wp2_with fail
      refine (p1.out _ h).mono ?_
      rintro e w1 ⟨rfl, hb1⟩
      have h1 := h.below hb1
      have HB1 := Lib.hid hb1
      clear hb1 h
      go_wp2_with fail
      refine (awake_yes _ h1).mono ?_
      rintro e w3 ⟨rfl, hb3⟩
      have h3 := h1.below hb3
      have HB3 := Lib.hid (HB1.out.trans (hb3.mono HB1.out.size))
      clear hb3 h1 HB1
      go_wp2_with fail
      refine (awake_yes _ h3).mono ?_
      rintro e w4 ⟨rfl, hb4⟩
      have HB4 := Lib.hid (HB3.out.trans (hb4.mono HB3.out.size))
      clear hb4
      go_wp2
      go_ret
      exact ⟨rfl, HB4.out⟩
    by_cases hs : 100 < more.size
    · clear p2 p3
      go_enter Tryd.func9, Tryd.ntmps9
      go_wp2_with fail
      refine (p1.out _ h).mono ?_
      rintro e w1 ⟨rfl, hb1⟩
      have h1 := h.below hb1
      have HB1 := Lib.hid hb1
      clear hb1 h
      go_wp2_with fail
      refine (awake_yes _ h1).mono ?_
      rintro e w3 ⟨rfl, hb3⟩
      have h3 := h1.below hb3
      have HB3 := Lib.hid (HB1.out.trans (hb3.mono HB1.out.size))
      clear hb3 h1 HB1
      go_wp2_with fail
      refine (awake_yes _ h3).mono ?_
      rintro e w4 ⟨rfl, hb4⟩
      have HB4 := Lib.hid (HB3.out.trans (hb4.mono HB3.out.size))
      clear hb4
      go_wp2
      go_ret
      exact ⟨rfl, HB4.out⟩
    obtain ⟨c, rfl⟩ : ∃ c : Nat, cut = c := ⟨cut.toNat, by omega⟩
    have hcL : c < L := by omega
    have p3 := Lib.hid (p3.out c hcL)
    go_enter Tryd.func9, Tryd.ntmps9
    go_wp2_with fail
    refine (p1.out _ h).mono ?_
    rintro e w1 ⟨rfl, hb1⟩
    have h1 := h.below hb1
    have HB1 := Lib.hid hb1
    clear hb1 h
    go_wp2_with fail
    refine (awake_yes _ h1).mono ?_
    rintro e w3 ⟨rfl, hb3⟩
    have h3 := h1.below hb3
    have HB3 := Lib.hid (HB1.out.trans (hb3.mono HB1.out.size))
    clear hb3 h1 HB1
    go_wp2_with fail
    refine (get_is _ _ _ _ _ (by simp [z1]; unfold maxLen; omega) p3.out _ h3).mono ?_
    rintro e w4 ⟨rfl, rfl⟩
    go_wp2_with fail
    refine (get_is _ _ _ _ _ (by simp only [ByteArray.size_append, z1]; unfold maxLen; omega) p2.out _ h3).mono ?_
    rintro e w4 ⟨rfl, rfl⟩
    go_wp2
    go_ret
    exact ⟨rfl, HB3.out⟩
  · have hn' : 4611686018427387904 ≤ n := by omega
    go_enter Tryd.func9, Tryd.ntmps9
    go_wp2_with fail
    refine (putN n hn' _ h).mono ?_
    rintro e w1 ⟨rfl, rfl⟩
    go_wp2_with fail
    refine (awake_yes _ h).mono ?_
    rintro e w3 ⟨rfl, hb3⟩
    have h3 := h.below hb3
    have HB3 := Lib.hid hb3
    clear hb3 h
    go_wp2_with fail
    refine (awake_yes _ h3).mono ?_
    rintro e w4 ⟨rfl, hb4⟩
    have HB4 := Lib.hid (HB3.out.trans (hb4.mono HB3.out.size))
    clear hb4
    go_wp2
    go_ret
    exact ⟨rfl, HB4.out⟩
end Go.Proofs.YtdkgbocffpiaaaaDoor
