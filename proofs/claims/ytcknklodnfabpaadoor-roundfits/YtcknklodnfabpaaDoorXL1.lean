/- The walks of RoundPuts, RoundGets, RoundBack, RoundOne. -/
import Derived.Test.YtcknklodnfabpaaDoorXA
namespace Go.Proofs.YtcknklodnfabpaaDoor
open Go Go.RowKit
/-- Within a law: the round that came, beside what is made. -/
structure LS (w wr : World) (o n : Int) (a : Option Addr) (len cap : Nat) (us : List Up) : Prop where
  d : Wd wr
  rb : Rb wr w.heap.size o n a len cap
  us : IsUs wr a len us
  bel : Below w.heap.size w wr
section
variable {w wr w' : World} {o n : Int} {a : Option Addr} {len cap : Nat} {us : List Up}
theorem LS.start (hd : Wd w) (hu : IsUs w a len us) (o n : Int) (cap : Nat) : LS w (w.alloc (.cells #[.int .i64 o, .int .i64 n, .slice a len cap] 24)) o n a len cap us :=
  have hB := Joins.below_alloc1 w (.cells #[.int .i64 o, .int .i64 n, .slice a len cap] 24)
  ⟨hd.alloc _, Rb.new w o n a len cap, isUs_below hu hB, hB⟩
theorem LS.next (h : LS w wr o n a len cap us) (hb : Below wr.heap.size wr w') : LS w w' o n a len cap us := ⟨h.d.below hb, h.rb.next hb, isUs_below h.us hb, Below.next h.bel hb⟩
theorem LS.alloc (h : LS w wr o n a len cap us) (x : Obj) : LS w (wr.alloc x) o n a len cap us := h.next (Joins.below_alloc1 wr x)
end
theorem geL_len (s : ByteArray) : (geL s).length ≤ 8 := by
  unfold geL
  split
  · show 0 ≤ 8; omega
  · have h1 : (getUs s).1.length = k3 s := updsR_len _ _ _ _
    have := (k3_le s).2
    omega
theorem gR_len {us : List Up} (h : ¬ gR us) : us.length ≤ 20 := by
  unfold gR at h
  rcases Nat.lt_or_ge 20 us.length with hx | hx
  · exact absurd (.inl hx) h
  · exact hx
theorem gR_sz {us : List Up} (h : ¬ gR us) (i : Nat) (hi : i < us.length) : (us.getD i up0).1.size ≤ 140737488355328 ∧ (us.getD i up0).2.2.2.size ≤ 140737488355328 := by
  have hg : ¬ gU (us.getD i up0) := fun hx => h (.inr (.inr ⟨i, hi, hx⟩))
  unfold gU at hg
  omega
set_option maxHeartbeats 4000000 in
theorem walkPuts (o n : Int) (a : Option Addr) (len cap : Nat) (us : List Up) (w : World) (hd : Wd w) (hu : IsUs w a len us) : Calls Tryd.prog 3 #[.agg #[.int .i64 o, .int .i64 n, .slice a len cap]] w fun e w' => e = .returned (.bool true) ∧ Below w.heap.size w w' := by
  by_cases hgg : gR us
  · have hs := LS.start hd hu o n cap
    have c0 := hs.rb.c0
    have c1 := hs.rb.c1
    have c2 := hs.rb.c2
    have hsz := hu.size
    have H0 := Lib.hid hs
    clear hs hd hu
    have HG := fun w h => Lib.hid (greatR_yes o n a len cap us hgg w h)
    clear hgg
    go_enter Tryd.func3, Tryd.ntmps3
    go_wp2_with fail
    refine (awake_yes _ H0.out.d).mono ?_
    rintro e1 w1 ⟨rfl, hb⟩
    have hs := H0.out.next hb
    have c0 := hs.rb.c0
    have c1 := hs.rb.c1
    have c2 := hs.rb.c2
    have H1 := Lib.hid hs
    clear hb hs H0 
    go_wp2_with fail
    refine ((HG _ H1.out.us).out).mono ?_
    rintro e2 w2 ⟨rfl, hb⟩
    have hs := H1.out.next hb
    have H2 := Lib.hid hs
    clear hb hs H1 HG c0 c1 c2
    go_wp2_with fail
    refine (awake_yes _ H2.out.d).mono ?_
    rintro e3 w3 ⟨rfl, hb⟩
    have hs := H2.out.next hb
    have H3 := Lib.hid hs
    clear hb hs H2 
    go_wp2
    go_ret
    exact ⟨rfl, H3.out.bel⟩
  have HG := fun w h => Lib.hid (greatR_no o n a len cap us hgg w h)
  have HP := fun w hd h => Lib.hid (rndput_any o n a len cap us w hd h)
  have HD := fun w h => Lib.hid (docmay_any o n a len cap us w h)
  have HM := fun w h => Lib.hid (rndmay_any o n a len cap us w h)
  clear hgg
  by_cases hm : mayR o n us = 0
  · have HB := fun w h => Lib.hid (docbytes o n a len cap us hm w h)
    rw [show putR o n us = pxR o n us from if_pos hm] at HP
    rw [hm] at HP HD HM
    generalize pxR o n us = px at *
    clear hm
    have hs := LS.start hd hu o n cap
    have c0 := hs.rb.c0
    have c1 := hs.rb.c1
    have c2 := hs.rb.c2
    have hsz := hu.size
    have H0 := Lib.hid hs
    clear hs hd hu
    go_enter Tryd.func3, Tryd.ntmps3
    go_wp2_with fail
    refine (awake_yes _ H0.out.d).mono ?_
    rintro e1 w1 ⟨rfl, hb⟩
    have hs := H0.out.next hb
    have c0 := hs.rb.c0
    have c1 := hs.rb.c1
    have c2 := hs.rb.c2
    have H1 := Lib.hid hs
    clear hb hs H0 
    go_wp2_with fail
    refine ((HG _ H1.out.us).out).mono ?_
    rintro e2 w2 ⟨rfl, hb⟩
    have hs := H1.out.next hb
    have c0 := hs.rb.c0
    have c1 := hs.rb.c1
    have c2 := hs.rb.c2
    have H2 := Lib.hid hs
    clear hb hs H1 HG
    go_wp2_with fail
    refine ((HP _ H2.out.d H2.out.us).out).mono ?_
    rintro e3 w3 ⟨rfl, hb⟩
    have hs := H2.out.next hb
    have c0 := hs.rb.c0
    have c1 := hs.rb.c1
    have c2 := hs.rb.c2
    have H3 := Lib.hid hs
    clear hb hs H2 HP
    go_wp2_with fail
    refine ((HD _ H3.out.us).out).mono ?_
    rintro e4 w4 ⟨rfl, hb⟩
    have hs := H3.out.next hb
    have c0 := hs.rb.c0
    have c1 := hs.rb.c1
    have c2 := hs.rb.c2
    have H4 := Lib.hid hs
    clear hb hs H3 HD
    go_wp2_with fail
    refine ((HM _ H4.out.us).out).mono ?_
    rintro e5 w5 ⟨rfl, hb⟩
    have hs := H4.out.next hb
    have c0 := hs.rb.c0
    have c1 := hs.rb.c1
    have c2 := hs.rb.c2
    have H5 := Lib.hid hs
    clear hb hs H4 HM
    go_wp2_with fail
    refine ((HB _ H5.out.us).out).mono ?_
    rintro e6 w6 ⟨rfl, hb⟩
    have hs := H5.out.next hb
    have H6 := Lib.hid hs
    clear hb hs H5 HB c0 c1 c2
    go_wp2
    go_ret
    exact ⟨rfl, H6.out.bel⟩
  · rw [show putR o n us = ⟨#[]⟩ from if_neg hm] at HP
    generalize mayR o n us = me at *
    have k1 : (me == 0) = false := by rw [beq_eq_false_iff_ne]; exact hm
    clear hm
    have hs := LS.start hd hu o n cap
    have c0 := hs.rb.c0
    have c1 := hs.rb.c1
    have c2 := hs.rb.c2
    have hsz := hu.size
    have H0 := Lib.hid hs
    clear hs hd hu
    go_enter Tryd.func3, Tryd.ntmps3
    go_wp2_with fail
    refine (awake_yes _ H0.out.d).mono ?_
    rintro e1 w1 ⟨rfl, hb⟩
    have hs := H0.out.next hb
    have c0 := hs.rb.c0
    have c1 := hs.rb.c1
    have c2 := hs.rb.c2
    have H1 := Lib.hid hs
    clear hb hs H0 
    go_wp2_with fail
    refine ((HG _ H1.out.us).out).mono ?_
    rintro e2 w2 ⟨rfl, hb⟩
    have hs := H1.out.next hb
    have c0 := hs.rb.c0
    have c1 := hs.rb.c1
    have c2 := hs.rb.c2
    have H2 := Lib.hid hs
    clear hb hs H1 HG
    go_wp2_with fail
    refine ((HP _ H2.out.d H2.out.us).out).mono ?_
    rintro e3 w3 ⟨rfl, hb⟩
    have hs := H2.out.next hb
    have c0 := hs.rb.c0
    have c1 := hs.rb.c1
    have c2 := hs.rb.c2
    have H3 := Lib.hid hs
    clear hb hs H2 HP
    go_wp2_with fail
    refine ((HD _ H3.out.us).out).mono ?_
    rintro e4 w4 ⟨rfl, hb⟩
    have hs := H3.out.next hb
    have c0 := hs.rb.c0
    have c1 := hs.rb.c1
    have c2 := hs.rb.c2
    have H4 := Lib.hid hs
    clear hb hs H3 HD
    go_wp2_with fail
    refine ((HM _ H4.out.us).out).mono ?_
    rintro e5 w5 ⟨rfl, hb⟩
    have hs := H4.out.next hb
    have H5 := Lib.hid hs
    clear hb hs H4 HM c0 c1 c2
    go_wp2
    go_ret
    exact ⟨rfl, H5.out.bel⟩
set_option maxHeartbeats 4000000 in
theorem walkGets (s : ByteArray) (w : World) (hd : Wd w) : Calls Tryd.prog 4 #[.string s] w fun e w' => e = .returned (.bool true) ∧ Below w.heap.size w w' := by
  by_cases hs8 : 800 < s.size
  · have q1 : decide ((800 : Int) < (s.size : Int)) = true := decide_eq_true (by omega)
    go_enter Tryd.func4, Tryd.ntmps4
    go_wp2_with fail
    refine (awake_yes _ hd).mono ?_
    rintro e w1 ⟨rfl, hb⟩
    have HD1 := Lib.hid (hd.below hb)
    have HB1 := Lib.hid hb
    clear hb
    go_wp2_with fail
    refine (awake_yes _ HD1.out).mono ?_
    rintro e w2 ⟨rfl, hb⟩
    have HB2 := Lib.hid (Below.next HB1.out hb)
    clear hb HD1 HB1
    go_wp2
    go_ret
    exact ⟨rfl, HB2.out⟩
  have q1 : decide ((800 : Int) < (s.size : Int)) = false := decide_eq_false (by omega)
  have hl8 := geL_len s
  have HM := fun w hd => Lib.hid (rndget_any s (by omega) w hd)
  have HR := fun w => Lib.hid (docget_any s (by omega) w)
  unfold GotR at HR
  generalize geO s = go at *
  generalize geN s = gn at *
  generalize geL s = gl at *
  generalize geE s = ge at *
  have HLL := Lib.hid hl8
  clear hl8
  go_enter Tryd.func4, Tryd.ntmps4
  go_wp2_with fail
  refine (awake_yes _ hd).mono ?_
  rintro e w1 ⟨rfl, hb⟩
  have HD1 := Lib.hid (hd.below hb)
  have HB1 := Lib.hid hb
  clear hb
  go_wp2_with fail
  refine (HM _ HD1.out).out.mono ?_
  rintro e w2 ⟨a, cap, rfl, hu, hb⟩
  have hA := Joins.below_alloc1 w2 (.cells #[.int .i64 go, .int .i64 gn, .slice a gl.length cap] 24)
  have HB2 := Lib.hid (Below.next (Below.next HB1.out hb) hA)
  have HU2 := Lib.hid (isUs_below hu hA)
  have HR2 := Lib.hid (Rb.new w2 go gn a gl.length cap)
  clear hb hu hA HB1 HD1 HM
  go_wp2_with fail
  generalize w2.heap.size = p at *
  refine (HR _).out.mono ?_
  rintro e w3 ⟨a2, cap2, rfl, hu, hb⟩
  have hA := Joins.below_alloc1 w3 (.cells #[.int .i64 go, .int .i64 gn, .slice a2 gl.length cap2] 24)
  have HB3 := Lib.hid (Below.next (Below.next HB2.out hb) hA)
  have HU3 := Lib.hid (isUs_below (isUs_below HU2.out hb) hA)
  have HV3 := Lib.hid (isUs_below hu hA)
  have hr := (HR2.out.next hb).next hA
  have hq := Rb.new w3 go gn a2 gl.length cap2
  have c0 := hr.c0
  have c1 := hr.c1
  have c2 := hr.c2
  have d0 := hq.c0
  have d1 := hq.c1
  have d2 := hq.c2
  have HS := Lib.hid (docsame_any go gn a gl.length cap go gn a2 gl.length cap2 gl gl (by have := HLL.out; omega) _ HU3.out HV3.out)
  rw [decide_eq_true (show go = go ∧ gn = gn ∧ gl = gl from ⟨rfl, rfl, rfl⟩)] at HS
  clear hb hu hA hr hq HB2 HU2 HR2 HR HU3 HV3
  go_wp2_with fail
  refine HS.out.mono ?_
  rintro e w4 ⟨rfl, hb⟩
  have HB4 := Lib.hid (Below.next HB3.out hb)
  clear hb HB3 HS c0 c1 c2 d0 d1 d2
  go_wp2
  go_ret
  exact ⟨rfl, HB4.out⟩
set_option maxHeartbeats 4000000 in
theorem walkBack (o n : Int) (a : Option Addr) (len cap : Nat) (us : List Up) (w : World) (hd : Wd w) (hu : IsUs w a len us) : Calls Tryd.prog 5 #[.agg #[.int .i64 o, .int .i64 n, .slice a len cap]] w fun e w' => e = .returned (.bool true) ∧ Below w.heap.size w w' := by
  by_cases hgg : gR us
  · have hs := LS.start hd hu o n cap
    have c0 := hs.rb.c0
    have c1 := hs.rb.c1
    have c2 := hs.rb.c2
    have hsz := hu.size
    have H0 := Lib.hid hs
    clear hs hd hu
    have HG := fun w h => Lib.hid (greatR_yes o n a len cap us hgg w h)
    clear hgg
    go_enter Tryd.func5, Tryd.ntmps5
    go_wp2_with fail
    refine (awake_yes _ H0.out.d).mono ?_
    rintro e1 w1 ⟨rfl, hb⟩
    have hs := H0.out.next hb
    have c0 := hs.rb.c0
    have c1 := hs.rb.c1
    have c2 := hs.rb.c2
    have H1 := Lib.hid hs
    clear hb hs H0 
    go_wp2_with fail
    refine ((HG _ H1.out.us).out).mono ?_
    rintro e2 w2 ⟨rfl, hb⟩
    have hs := H1.out.next hb
    have H2 := Lib.hid hs
    clear hb hs H1 HG c0 c1 c2
    go_wp2_with fail
    refine (awake_yes _ H2.out.d).mono ?_
    rintro e3 w3 ⟨rfl, hb⟩
    have hs := H2.out.next hb
    have H3 := Lib.hid hs
    clear hb hs H2 
    go_wp2
    go_ret
    exact ⟨rfl, H3.out.bel⟩
  have HG := fun w h => Lib.hid (greatR_no o n a len cap us hgg w h)
  have hl20 := gR_len hgg
  have HP := fun w hd h => Lib.hid (rndput_any o n a len cap us w hd h)
  clear hgg
  by_cases hm : mayR o n us = 0
  · have hz := pxR_size o n us hm
    have hbk := back_r o n us hm
    have HGT := fun w hd => Lib.hid (rndget_any (pxR o n us) (by omega) w hd)
    rw [hbk.1, hbk.2.1, hbk.2.2.1, hbk.2.2.2] at HGT
    rw [show putR o n us = pxR o n us from if_pos hm] at HP
    rw [hm] at HP
    generalize pxR o n us = px at *
    clear hm hbk hz
    have hs := LS.start hd hu o n cap
    have c0 := hs.rb.c0
    have c1 := hs.rb.c1
    have c2 := hs.rb.c2
    have hsz := hu.size
    have H0 := Lib.hid hs
    clear hs hd hu
    rw [hsz] at HGT hl20
    clear hsz
    go_enter Tryd.func5, Tryd.ntmps5
    go_wp2_with fail
    refine (awake_yes _ H0.out.d).mono ?_
    rintro e1 w1 ⟨rfl, hb⟩
    have hs := H0.out.next hb
    have c0 := hs.rb.c0
    have c1 := hs.rb.c1
    have c2 := hs.rb.c2
    have H1 := Lib.hid hs
    clear hb hs H0 
    go_wp2_with fail
    refine ((HG _ H1.out.us).out).mono ?_
    rintro e2 w2 ⟨rfl, hb⟩
    have hs := H1.out.next hb
    have c0 := hs.rb.c0
    have c1 := hs.rb.c1
    have c2 := hs.rb.c2
    have H2 := Lib.hid hs
    clear hb hs H1 HG
    go_wp2_with fail
    refine ((HP _ H2.out.d H2.out.us).out).mono ?_
    rintro e3 w3 ⟨rfl, hb⟩
    have hs := H2.out.next hb
    have H3 := Lib.hid hs
    clear hb hs H2 HP c0 c1 c2
    go_wp2_with fail
    refine (HGT _ H3.out.d).out.mono ?_
    rintro e4 w4 ⟨a2, cap2, rfl, hu, hb⟩
    have hA := Joins.below_alloc1 w4 (.cells #[.int .i64 o, .int .i64 n, .slice a2 len cap2] 24)
    have hs := (H3.out.next hb).next hA
    have c0 := hs.rb.c0
    have c1 := hs.rb.c1
    have c2 := hs.rb.c2
    have hq := Rb.new w4 o n a2 len cap2
    have d0 := hq.c0
    have d1 := hq.c1
    have d2 := hq.c2
    have HS := Lib.hid (docsame_any o n a2 len cap2 o n a len cap us us (by omega) _ (isUs_below hu hA) hs.us)
    rw [decide_eq_true (show o = o ∧ n = n ∧ us = us from ⟨rfl, rfl, rfl⟩)] at HS
    have H4 := Lib.hid hs
    clear hb hs hA hq hu H3 HGT
    go_wp2_with fail
    refine (HS.out).mono ?_
    rintro e5 w5 ⟨rfl, hb⟩
    have hs := H4.out.next hb
    have H5 := Lib.hid hs
    clear hb hs H4 HS c0 c1 c2 d0 d1 d2
    go_wp2
    go_ret
    exact ⟨rfl, H5.out.bel⟩
  · rw [show putR o n us = ⟨#[]⟩ from if_neg hm] at HP
    generalize mayR o n us = me at *
    have k1 : (me == 0) = false := by rw [beq_eq_false_iff_ne]; exact hm
    clear hm
    have hs := LS.start hd hu o n cap
    have c0 := hs.rb.c0
    have c1 := hs.rb.c1
    have c2 := hs.rb.c2
    have hsz := hu.size
    have H0 := Lib.hid hs
    clear hs hd hu
    go_enter Tryd.func5, Tryd.ntmps5
    go_wp2_with fail
    refine (awake_yes _ H0.out.d).mono ?_
    rintro e1 w1 ⟨rfl, hb⟩
    have hs := H0.out.next hb
    have c0 := hs.rb.c0
    have c1 := hs.rb.c1
    have c2 := hs.rb.c2
    have H1 := Lib.hid hs
    clear hb hs H0 
    go_wp2_with fail
    refine ((HG _ H1.out.us).out).mono ?_
    rintro e2 w2 ⟨rfl, hb⟩
    have hs := H1.out.next hb
    have c0 := hs.rb.c0
    have c1 := hs.rb.c1
    have c2 := hs.rb.c2
    have H2 := Lib.hid hs
    clear hb hs H1 HG
    go_wp2_with fail
    refine ((HP _ H2.out.d H2.out.us).out).mono ?_
    rintro e3 w3 ⟨rfl, hb⟩
    have hs := H2.out.next hb
    have H3 := Lib.hid hs
    clear hb hs H2 HP c0 c1 c2
    go_wp2
    go_ret
    exact ⟨rfl, H3.out.bel⟩
set_option maxHeartbeats 4000000 in
theorem walkOne (s : ByteArray) (w : World) (hd : Wd w) : Calls Tryd.prog 6 #[.string s] w fun e w' => e = .returned (.bool true) ∧ Below w.heap.size w w' := by
  by_cases hs8 : 800 < s.size
  · have q1 : decide ((800 : Int) < (s.size : Int)) = true := decide_eq_true (by omega)
    go_enter Tryd.func6, Tryd.ntmps6
    go_wp2_with fail
    refine (awake_yes _ hd).mono ?_
    rintro e w1 ⟨rfl, hb⟩
    have HD1 := Lib.hid (hd.below hb)
    have HB1 := Lib.hid hb
    clear hb
    go_wp2_with fail
    refine (awake_yes _ HD1.out).mono ?_
    rintro e w2 ⟨rfl, hb⟩
    have HB2 := Lib.hid (Below.next HB1.out hb)
    clear hb HD1 HB1
    go_wp2
    go_ret
    exact ⟨rfl, HB2.out⟩
  have q1 : decide ((800 : Int) < (s.size : Int)) = false := decide_eq_false (by omega)
  have hl8 := geL_len s
  have HM := fun w hd => Lib.hid (rndget_any s (by omega) w hd)
  by_cases hg : geE s = 0
  · obtain ⟨h1, h2⟩ := one_r s hg
    have HP := fun a cap w hd h => Lib.hid (rndput_any (geO s) (geN s) a (geL s).length cap (geL s) w hd h)
    rw [show putR (geO s) (geN s) (geL s) = s from (if_pos h1).trans h2, h1] at HP
    rw [hg] at HM
    generalize geO s = go at *
    generalize geN s = gn at *
    generalize geL s = gl at *
    clear h1 h2 hg hl8
    go_enter Tryd.func6, Tryd.ntmps6
    go_wp2_with fail
    refine (awake_yes _ hd).mono ?_
    rintro e w1 ⟨rfl, hb⟩
    have HD1 := Lib.hid (hd.below hb)
    have HB1 := Lib.hid hb
    clear hb
    go_wp2_with fail
    refine (HM _ HD1.out).out.mono ?_
    rintro e w2 ⟨a, cap, rfl, hu, hb⟩
    have hA := Joins.below_alloc1 w2 (.cells #[.int .i64 go, .int .i64 gn, .slice a gl.length cap] 24)
    have HB2 := Lib.hid (Below.next (Below.next HB1.out hb) hA)
    have HU2 := Lib.hid (isUs_below hu hA)
    have hr := Rb.new w2 go gn a gl.length cap
    have c0 := hr.c0
    have c1 := hr.c1
    have c2 := hr.c2
    have HD2 := Lib.hid ((HD1.out.below hb).below hA)
    clear hb hu hA hr HB1 HD1 HM
    go_wp2_with fail
    refine (HP _ _ _ HD2.out HU2.out).out.mono ?_
    rintro e w3 ⟨rfl, hb⟩
    have HB3 := Lib.hid (Below.next HB2.out hb)
    clear hb HB2 HU2 HD2 HP c0 c1 c2
    go_wp2
    go_ret
    exact ⟨rfl, HB3.out⟩
  · have r1 : geO s = 0 := if_pos hg
    have r2 : geN s = 0 := if_pos hg
    have r3 : geL s = [] := if_pos hg
    rw [r1, r2, r3] at HM
    rw [show ([] : List Up).length = 0 from rfl] at HM
    have k1 : (geE s == 0) = false := by rw [beq_eq_false_iff_ne]; exact hg
    generalize geE s = ge at *
    clear hg r1 r2 r3 hl8
    go_enter Tryd.func6, Tryd.ntmps6
    go_wp2_with fail
    refine (awake_yes _ hd).mono ?_
    rintro e w1 ⟨rfl, hb⟩
    have HD1 := Lib.hid (hd.below hb)
    have HB1 := Lib.hid hb
    clear hb
    go_wp2_with fail
    refine (HM _ HD1.out).out.mono ?_
    rintro e w2 ⟨a, cap, rfl, hu, hb⟩
    have hA := Joins.below_alloc1 w2 (.cells #[.int .i64 0, .int .i64 0, .slice a 0 cap] 24)
    have HB2 := Lib.hid (Below.next (Below.next HB1.out hb) hA)
    have hr := Rb.new w2 0 0 a 0 cap
    have c0 := hr.c0
    have c1 := hr.c1
    have c2 := hr.c2
    have HS := Lib.hid (docsame_any 0 0 a 0 cap 0 0 none 0 0 [] [] (by decide) _ (isUs_below hu hA) ⟨rfl, fun h => absurd h (Nat.lt_irrefl _)⟩)
    rw [decide_eq_true (show (0 : Int) = 0 ∧ (0 : Int) = 0 ∧ ([] : List Up) = [] from ⟨rfl, rfl, rfl⟩)] at HS
    clear hb hu hA hr HB1 HD1 HM
    go_wp2_with fail
    refine HS.out.mono ?_
    rintro e w3 ⟨rfl, hb⟩
    have HB3 := Lib.hid (Below.next HB2.out hb)
    clear hb HB2 HS c0 c1 c2
    go_wp2
    go_ret
    exact ⟨rfl, HB3.out⟩
end Go.Proofs.YtcknklodnfabpaaDoor
