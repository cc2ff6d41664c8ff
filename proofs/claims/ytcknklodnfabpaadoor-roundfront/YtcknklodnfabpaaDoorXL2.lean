/- The walk of RoundFront. -/
import Derived.Test.YtcknklodnfabpaaDoorXL1
namespace Go.Proofs.YtcknklodnfabpaaDoor
open Go Go.RowKit
theorem gete (s : ByteArray) (hm : s.size ≤ 140737488355328) (e : Int) (h : geE s = e) (w : World) (hd : Wd w) : Calls Tryd.prog 16 #[.string s] w fun x w' => ∃ o n a len cap, x = .returned (.tuple #[.agg #[.int .i64 o, .int .i64 n, .slice a len cap], .int .i64 e]) ∧ Below w.heap.size w w' := by
  have := rndget_any s hm w hd
  rw [h] at this
  refine this.mono ?_
  rintro x w' ⟨a, cap, rfl, _, hb⟩
  exact ⟨_, _, a, _, cap, rfl, hb⟩
theorem conv_one (W : World) (m : Int) : (convert 46 9 (.slice (some ⟨W.heap.size, 0, none⟩) 1 1)).run Tryd.prog (W.alloc (.cells #[.int .u8 m] 5)) = .ok (.string (strOfNums [m])) (W.alloc (.cells #[.int .u8 m] 5)) :=
  run_convert_bytes_arg (P := Tryd.prog) _ 46 5 Tryd.underlying46 Tryd.underlying5 W.heap.size 0 1 1 [m] rfl (fun i hi => by
    obtain rfl : i = 0 := by simp at hi; omega
    exact cell_at (new_at rfl) 0 (.int .u8 m) rfl) 9 Tryd.underlying9
set_option maxHeartbeats 4000000 in
theorem walkFront (o n : Int) (a : Option Addr) (len cap : Nat) (us : List Up) (cut m : Int) (w : World) (hd : Wd w) (hu : IsUs w a len us) : Calls Tryd.prog 9 #[.agg #[.int .i64 o, .int .i64 n, .slice a len cap], .int .i64 cut, .int .u8 m] w fun e w' => e = .returned (.bool true) ∧ Below w.heap.size w w' := by
  by_cases hgg : gR us
  · have hs := LS.start hd hu o n cap
    have c0 := hs.rb.c0
    have c1 := hs.rb.c1
    have c2 := hs.rb.c2
    have hsz := hu.size
    have H0 := Lib.hid hs
    clear hs hd hu
    have HG := fun w h => Lib.hid (greatR_yes o n a len cap us hgg w h)
    clear hgg
    go_enter Tryd.func9, Tryd.ntmps9
    go_wp2_with fail
    refine (awake_yes _ H0.out.d).mono ?_
    rintro e1 w1 ⟨rfl, hb⟩
    have hs := H0.out.next hb
    have c0 := hs.rb.c0
    have c1 := hs.rb.c1
    have c2 := hs.rb.c2
    have H1 := Lib.hid hs
    clear hb hs H0 
    go_wp2_with fail
    refine ((HG _ H1.out.us).out).mono ?_
    rintro e2 w2 ⟨rfl, hb⟩
    have hs := H1.out.next hb
    have H2 := Lib.hid hs
    clear hb hs H1 HG c0 c1 c2
    go_wp2_with fail
    refine (awake_yes _ H2.out.d).mono ?_
    rintro e3 w3 ⟨rfl, hb⟩
    have hs := H2.out.next hb
    have H3 := Lib.hid hs
    clear hb hs H2 
    go_wp2
    go_ret
    exact ⟨rfl, H3.out.bel⟩
  have HG := fun w h => Lib.hid (greatR_no o n a len cap us hgg w h)
  have HP := fun w hd h => Lib.hid (rndput_any o n a len cap us w hd h)
  clear hgg
  by_cases hm : mayR o n us = 0
  · have hz := pxR_size o n us hm
    rw [show putR o n us = pxR o n us from if_pos hm] at HP
    rw [hm] at HP
    by_cases hc0 : cut < 0
    · have q1 : decide (cut < 0) = true := decide_eq_true hc0
      generalize pxR o n us = px at *
      clear hm hz
      have hs := LS.start hd hu o n cap
      have c0 := hs.rb.c0
      have c1 := hs.rb.c1
      have c2 := hs.rb.c2
      have hsz := hu.size
      have H0 := Lib.hid hs
      clear hs hd hu
      go_enter Tryd.func9, Tryd.ntmps9
      go_wp2_with fail
      refine (awake_yes _ H0.out.d).mono ?_
      rintro e1 w1 ⟨rfl, hb⟩
      have hs := H0.out.next hb
      have c0 := hs.rb.c0
      have c1 := hs.rb.c1
      have c2 := hs.rb.c2
      have H1 := Lib.hid hs
      clear hb hs H0 
      go_wp2_with fail
      refine ((HG _ H1.out.us).out).mono ?_
      rintro e2 w2 ⟨rfl, hb⟩
      have hs := H1.out.next hb
      have c0 := hs.rb.c0
      have c1 := hs.rb.c1
      have c2 := hs.rb.c2
      have H2 := Lib.hid hs
      clear hb hs H1 HG
      go_wp2_with fail
      refine ((HP _ H2.out.d H2.out.us).out).mono ?_
      rintro e3 w3 ⟨rfl, hb⟩
      have hs := H2.out.next hb
      have H3 := Lib.hid hs
      clear hb hs H2 HP c0 c1 c2
      go_wp2
      go_ret
      exact ⟨rfl, H3.out.bel⟩
    by_cases hc1 : ((pxR o n us).size : Int) ≤ cut
    · have q1 : decide (cut < 0) = false := decide_eq_false hc0
      have q2 : decide (((pxR o n us).size : Int) ≤ cut) = true := decide_eq_true hc1
      generalize pxR o n us = px at *
      clear hm hz
      have hs := LS.start hd hu o n cap
      have c0 := hs.rb.c0
      have c1 := hs.rb.c1
      have c2 := hs.rb.c2
      have hsz := hu.size
      have H0 := Lib.hid hs
      clear hs hd hu
      go_enter Tryd.func9, Tryd.ntmps9
      go_wp2_with fail
      refine (awake_yes _ H0.out.d).mono ?_
      rintro e1 w1 ⟨rfl, hb⟩
      have hs := H0.out.next hb
      have c0 := hs.rb.c0
      have c1 := hs.rb.c1
      have c2 := hs.rb.c2
      have H1 := Lib.hid hs
      clear hb hs H0 
      go_wp2_with fail
      refine ((HG _ H1.out.us).out).mono ?_
      rintro e2 w2 ⟨rfl, hb⟩
      have hs := H1.out.next hb
      have c0 := hs.rb.c0
      have c1 := hs.rb.c1
      have c2 := hs.rb.c2
      have H2 := Lib.hid hs
      clear hb hs H1 HG
      go_wp2_with fail
      refine ((HP _ H2.out.d H2.out.us).out).mono ?_
      rintro e3 w3 ⟨rfl, hb⟩
      have hs := H2.out.next hb
      have H3 := Lib.hid hs
      clear hb hs H2 HP c0 c1 c2
      go_wp2
      go_ret
      exact ⟨rfl, H3.out.bel⟩
    obtain ⟨c, rfl⟩ : ∃ c : Nat, cut = c := ⟨cut.toNat, by omega⟩
    have hcl : c < (pxR o n us).size := by omega
    have HG1 := fun w hd => Lib.hid (gete ((pxR o n us).extract 0 c) (by rw [cut_size _ _ (by omega)]; omega) 2 (front_r o n us hm c hcl) w hd)
    have hms : (strOfNums [m]).size = 1 := by rw [strOfNums_size]; rfl
    have HG2 := fun w hd => Lib.hid (gete (pxR o n us ++ strOfNums [m]) (by rw [ByteArray.size_append]; omega) 4 (more_r o n us hm (strOfNums [m]) (by omega)) w hd)
    have HCV := fun W => Lib.hid (conv_one W m)
    generalize pxR o n us = px at *
    generalize strOfNums [m] = ms at *
    have y1 : ¬ 9223372036854775807 < px.size + ms.size := by omega
    clear hm
    have q1 : decide ((c : Int) < 0) = false := decide_eq_false hc0
    have q2 : decide ((px.size : Int) ≤ (c : Int)) = false := decide_eq_false hc1
    clear hc0 hc1 hms
    have hs := LS.start hd hu o n cap
    have c0 := hs.rb.c0
    have c1 := hs.rb.c1
    have c2 := hs.rb.c2
    have hsz := hu.size
    have H0 := Lib.hid hs
    clear hs hd hu
    go_enter Tryd.func9, Tryd.ntmps9
    go_wp2_with fail
    refine (awake_yes _ H0.out.d).mono ?_
    rintro e1 w1 ⟨rfl, hb⟩
    have hs := H0.out.next hb
    have c0 := hs.rb.c0
    have c1 := hs.rb.c1
    have c2 := hs.rb.c2
    have H1 := Lib.hid hs
    clear hb hs H0 
    go_wp2_with fail
    refine ((HG _ H1.out.us).out).mono ?_
    rintro e2 w2 ⟨rfl, hb⟩
    have hs := H1.out.next hb
    have c0 := hs.rb.c0
    have c1 := hs.rb.c1
    have c2 := hs.rb.c2
    have H2 := Lib.hid hs
    clear hb hs H1 HG
    go_wp2_with fail
    refine ((HP _ H2.out.d H2.out.us).out).mono ?_
    rintro e3 w3 ⟨rfl, hb⟩
    have hs := H2.out.next hb
    have H3 := Lib.hid hs
    clear hb hs H2 HP c0 c1 c2
    go_wp2_with fail
    refine (HG1 _ H3.out.d).out.mono ?_
    rintro e4 w4 ⟨o', n', a', len', cap', rfl, hb⟩
    have hs := (H3.out.next hb).alloc (.cells #[.int .i64 o', .int .i64 n', .slice a' len' cap'] 24)
    have H4 := Lib.hid (hs.alloc (.cells #[.int .u8 m] 5))
    have hcv := (HCV (w4.alloc (.cells #[.int .i64 o', .int .i64 n', .slice a' len' cap'] 24))).out
    rw [show (w4.alloc (.cells #[.int .i64 o', .int .i64 n', .slice a' len' cap'] 24)).heap.size = w4.heap.size + 1 by simp] at hcv
    clear hb hs H3 HG1 HCV
    go_wp2_with fail
    refine (HG2 _ H4.out.d).out.mono ?_
    rintro e5 w5 ⟨o2, n2, a2, len2, cap2, rfl, hb⟩
    have H5 := Lib.hid ((H4.out.next hb).alloc (.cells #[.int .i64 o2, .int .i64 n2, .slice a2 len2 cap2] 24))
    clear hb H4 HG2 hcv y1
    go_wp2
    go_ret
    exact ⟨rfl, H5.out.bel⟩
  · rw [show putR o n us = ⟨#[]⟩ from if_neg hm] at HP
    generalize mayR o n us = me at *
    have k1 : (me == 0) = false := by rw [beq_eq_false_iff_ne]; exact hm
    have k2 : (me != 0) = true := by rw [bne_iff_ne]; exact hm
    clear hm
    have hs := LS.start hd hu o n cap
    have c0 := hs.rb.c0
    have c1 := hs.rb.c1
    have c2 := hs.rb.c2
    have hsz := hu.size
    have H0 := Lib.hid hs
    clear hs hd hu
    go_enter Tryd.func9, Tryd.ntmps9
    go_wp2_with fail
    refine (awake_yes _ H0.out.d).mono ?_
    rintro e1 w1 ⟨rfl, hb⟩
    have hs := H0.out.next hb
    have c0 := hs.rb.c0
    have c1 := hs.rb.c1
    have c2 := hs.rb.c2
    have H1 := Lib.hid hs
    clear hb hs H0 
    go_wp2_with fail
    refine ((HG _ H1.out.us).out).mono ?_
    rintro e2 w2 ⟨rfl, hb⟩
    have hs := H1.out.next hb
    have c0 := hs.rb.c0
    have c1 := hs.rb.c1
    have c2 := hs.rb.c2
    have H2 := Lib.hid hs
    clear hb hs H1 HG
    go_wp2_with fail
    refine ((HP _ H2.out.d H2.out.us).out).mono ?_
    rintro e3 w3 ⟨rfl, hb⟩
    have hs := H2.out.next hb
    have H3 := Lib.hid hs
    clear hb hs H2 HP c0 c1 c2
    go_wp2
    go_ret
    exact ⟨rfl, H3.out.bel⟩
end Go.Proofs.YtcknklodnfabpaaDoor
