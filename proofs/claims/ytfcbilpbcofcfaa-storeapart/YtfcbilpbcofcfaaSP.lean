/- The walk of StorePlays. -/
import Derived.Test.YtfcbilpbcofcfaaST
namespace Go.Proofs.Ytfcbilpbcofcfaa
open Go Go.RowKit Go.Maps Go.Sort
theorem isUs_take {w : World} {a : Option Addr} {len : Nat} {us : List Up} (h : IsUs w a len us) {k : Nat} (hk : k ≤ len) : IsUs w a k (us.take k) := by
  have hs := h.size
  refine ⟨by rw [List.length_take]; omega, fun h0 => ?_⟩
  obtain ⟨b, off, e, hf⟩ := h.lies (by omega)
  have hg : ∀ i, i < k → (us.take k).getD i up0 = us.getD i up0 := fun i hi => by
    simp [List.getD_eq_getElem?_getD, hi]
  refine ⟨b, off, e, four fun i hi => ?_⟩
  rw [List.length_take] at hi
  rw [hg i (by omega)]
  exact ⟨hf.key i (by omega), hf.k i (by omega), hf.n i (by omega), hf.t i (by omega)⟩
theorem wrap_small {x : Int} (h0 : 0 ≤ x) (h1 : x ≤ 1000000) : IntKind.i64.wrap x = x := by
  first
    | (show wrap64 x = x; unfold wrap64; omega)
    | (simp [IntKind.wrap, IntKind.bits]; omega)
    | (unfold IntKind.wrap; simp [IntKind.bits, IntKind.signed]; omega)
/-- A store, and an update's box, apart from what lies below B. -/
structure Ps (B : Nat) (w wr : World) (b m n : Nat) (f : Fn) (X : Nat) (u : Up) : Prop where
  st : St wr b m n f
  ub : Ub wr X u
  lo : B ≤ m
  bel : Below B w wr
theorem Ps.next {B w wr W w1 b m n f X u} (h : Ps B w wr b m n f X u) (hb : Below W.heap.size W w1) (e1 : W.os = wr.os) (e2 : W.tape = wr.tape) (e3 : W.output = wr.output) (e4 : W.heap = wr.heap) : Ps B w w1 b m n f X u := by
  have hl := h.st.ltm
  have h0 := h.lo
  refine ⟨(h.st.same e4).below hb, h.ub.kept hb e4, h.lo, Below.trans (b := W) ⟨e1.trans h.bel.os, e2.trans h.bel.tape, e3.trans h.bel.output, by rw [e4]; exact h.bel.size, fun k hk => by rw [e4]; exact h.bel.block k hk⟩ (hb.mono (by rw [e4]; omega))⟩
theorem Ps.done {B w wr w1 b m n f X u n1 f1} (h : Ps B w wr b m n f X u) (hs : St w1 b m n1 f1) (hg : wr.drew.grownBy w1 (some m)) : Ps B w w1 b m n1 f1 X u := by
  have hl := h.st.ltm
  have h0 := h.lo
  exact ⟨hs, h.ub.first h.st (undrew hg), h.lo, bgrown h.bel (undrew hg) (by omega) h.lo⟩
theorem one_st (w : World) (b m : Nat) {w1 w2 : World} {n : Nat} {f : Fn} (h : St w1 b m n f) (hb : Below w.heap.size w w1) (h2 : Below w1.heap.size w1 w2) : St w2 b m n f ∧ Below w.heap.size w w2 := ⟨h.below h2, Below.next hb h2⟩
set_option maxHeartbeats 8000000 in
theorem walkPlays (a : Option Addr) (len cap : Nat) (us : List Up) (key : ByteArray) (hlc : len ≤ cap) (hac : a = none → cap = 0) (w : World) (h : IsUs w a len us) :
    Calls Try.prog 3 #[.slice a len cap, .string key] w fun e w' => e = .returned (.bool true) ∧ Below w.heap.size w w' := by
  have H := Lib.hid h
  have hsz := h.size
  clear h
  by_cases hg : gL len us
  · have HG := fun w h => Lib.hid (great_yes a len cap us hg w h)
    clear hg
    go_enter Try.func3, Try.ntmps3
    go_wp2_with fail
    refine (new_ex _).mono ?_
    rintro e w1 ⟨b1, m1, rfl, hb1, hm1, h1, hbl1⟩
    have HB1 := Lib.hid hbl1
    clear h1 hbl1
    go_wp2_with fail
    refine (awake_yes _).mono ?_
    rintro e w3 ⟨rfl, hbl3⟩
    have HB3 := Lib.hid (Below.next HB1.out hbl3)
    clear hbl3 HB1
    go_wp2_with fail
    refine (HG _ (isUs_below H.out HB3.out)).out.mono ?_
    rintro e w4 ⟨rfl, hbl4⟩
    have HB4 := Lib.hid (Below.next HB3.out hbl4)
    clear hbl4 HB3
    go_wp2_with fail
    refine (awake_yes _).mono ?_
    rintro e w5 ⟨rfl, hbl5⟩
    have HB5 := Lib.hid (Below.next HB4.out hbl5)
    clear hbl5 HB4
    go_wp2
    go_ret
    exact ⟨rfl, HB5.out⟩
  have HG := fun w h => Lib.hid (great_no a len cap us hg w h)
  have HS := Lib.hid (gL_sh hsz hg)
  have hl := gL_len hg
  clear hg
  by_cases hk : 100 < key.size
  · have q : decide ((100 : Int) < (key.size : Int)) = true := decide_eq_true (by omega)
    go_enter Try.func3, Try.ntmps3
    go_wp2_with fail
    refine (new_ex _).mono ?_
    rintro e w1 ⟨b1, m1, rfl, hb1, hm1, h1, hbl1⟩
    have HB1 := Lib.hid hbl1
    clear h1 hbl1
    go_wp2_with fail
    refine (awake_yes _).mono ?_
    rintro e w3 ⟨rfl, hbl3⟩
    have HB3 := Lib.hid (Below.next HB1.out hbl3)
    clear hbl3 HB1
    go_wp2_with fail
    refine (HG _ (isUs_below H.out HB3.out)).out.mono ?_
    rintro e w4 ⟨rfl, hbl4⟩
    have HB4 := Lib.hid (Below.next HB3.out hbl4)
    clear hbl4 HB3
    go_wp2_with fail
    refine (awake_yes _).mono ?_
    rintro e w5 ⟨rfl, hbl5⟩
    have HB5 := Lib.hid (Below.next HB4.out hbl5)
    clear hbl5 HB4
    go_wp2
    go_ret
    exact ⟨rfl, HB5.out⟩
  have q : decide ((100 : Int) < (key.size : Int)) = false := decide_eq_false (by omega)
  have hk1 : key.size ≤ 1000 := by omega
  go_enter Try.func3, Try.ntmps3
  go_wp2_with fail
  refine (new_ex _).mono ?_
  rintro e w1 ⟨b1, m1, rfl, hb1, hm1, h1, hbl1⟩
  have H1 := Lib.hid h1
  have HB1 := Lib.hid hbl1
  clear h1 hbl1
  go_wp2_with fail
  refine (awake_yes _).mono ?_
  rintro e w3 ⟨rfl, hbl3⟩
  have H3 := Lib.hid (one_st w b1 m1 H1.out HB1.out hbl3)
  clear hbl3 HB1 H1
  go_wp2_with fail
  refine (HG _ (isUs_below H.out H3.out.2)).out.mono ?_
  rintro e w4 ⟨rfl, hbl4⟩
  have H4 := Lib.hid (one_st w b1 m1 H3.out.1 H3.out.2 hbl4)
  clear hbl4 H3 HG
  go_wp2_with fail
  go_loopw [27] (fun v wr => ∃ k : Nat, k ≤ len ∧ v = .int .i64 k ∧ St wr b1 m1 k (stF (us.take k)) ∧ Below w.heap.size w wr) (fun v _ => len - (intOf v).toNat)
  case atStart => exact ⟨0, Nat.zero_le _, rfl, H4.out.1, H4.out.2⟩
  case round =>
    obtain ⟨k, hk, rfl, hst, hbel⟩ := hrel
    clear H4
    by_cases hlt : k < len
    · obtain ⟨b, off, rfl, c0, c1, c2, c3⟩ := cells_of H.out hbel hlt
      have hus := HS.out _ (mem_getD (k := k) (by omega))
      have hgd := take_sh HS.out (k + 1)
      have HD := fun W h => Lib.hid (do_next HS.out (k := k) (by omega) b1 m1 k (by omega) W h)
      have HM := fun w => Lib.hid (rmay_any (us.getD k up0) w)
      have HG1 := fun W h => Lib.hid (get_any b1 m1 (k + 1) (stF (us.take (k + 1))) (us.getD k up0).1 (by omega) (hgd _).2.2 W h)
      have HG2 := fun W h => Lib.hid (get_any b1 m1 (k + 1) (stF (us.take (k + 1))) key hk1 (hgd _).2.2 W h)
      have HR := fun key W h => Lib.hid (rget_any key (some ⟨b, off, none⟩) (k + 1) cap (us.take (k + 1)) (fun u hu => (HS.out u (List.mem_of_mem_take hu)).2) (by omega) W h)
      have HI := Lib.hid (isUs_take H.out (k := k + 1) (by omega))
      have HR1 := fun W h => Lib.hid (HR (us.getD k up0).1 W h).out
      have HR2 := fun W h => Lib.hid (HR key W h).out
      have HST := Lib.hid hst
      have HBEL := Lib.hid hbel
      clear hst hbel hgd hus HR
      generalize stF (us.take (k + 1)) (ky (us.getD k up0).1) = r1 at *
      generalize stF (us.take (k + 1)) (ky key) = r2 at *
      generalize mayE (us.getD k up0) = me at *
      generalize us.getD k up0 = u at *
      obtain ⟨r1k, r1n, r1s⟩ := r1
      obtain ⟨r2k, r2n, r2s⟩ := r2
      obtain ⟨uk, ux, un, ut⟩ := u
      simp only [uu, vv_eq] at HD HM HG1 HG2 HR1 HR2 c0 c1 c2 c3
      have s0 : IntKind.i64.wrap ((k : Int) + 1) = (k : Int) + 1 := wrap_small (by omega) (by omega)
      have s1 : (0 : Int) ≤ (k : Int) + 1 := by omega
      have s2 : (k : Int) + 1 ≤ (cap : Int) := by omega
      have s3 : ((k : Int) + 1).toNat = k + 1 := by omega
      go_wp2_with fail
      have hps : Ps w.heap.size w (wr.alloc (.cells #[.string uk, .int .i64 ux, .int .i64 un, .string ut] 28)) b1 m1 k (stF (us.take k)) wr.heap.size (uk, ux, un, ut) := ⟨HST.out.alloc _, new_at rfl, hm1, HBEL.out.alloc HBEL.out.size _⟩
      obtain ⟨d0, d1, d2, d3⟩ := Ub.c hps.ub
      have HP := Lib.hid hps
      clear hps HST HBEL
      go_region_held3 (fun w' => w'.cell? ⟨wr.heap.size, 0, none⟩ = some (.string uk) ∧ w'.cell? ⟨wr.heap.size, 1, none⟩ = some (.int .i64 ux) ∧ w'.cell? ⟨wr.heap.size, 2, none⟩ = some (.int .i64 un) ∧ w'.cell? ⟨wr.heap.size, 3, none⟩ = some (.string ut))
        (first | exact ⟨d0, d1, d2, d3⟩)
        (first
          | (go_at_call 11
             refine (HD _ ?_).out.mono ?_
             · exact HP.out.st.same rfl
             rintro e w5 ⟨rfl, h5, hg5⟩
             have HP1 := Lib.hid (HP.out.done h5 hg5)
             obtain ⟨d0, d1, d2, d3⟩ := Ub.c HP1.out.ub
             clear h5 hg5)
          | (go_at_call 12
             refine (HM _).out.mono ?_
             rintro e w6 ⟨rfl, hb⟩
             have HP2 := Lib.hid (HP1.out.next hb rfl rfl rfl rfl)
             obtain ⟨d0, d1, d2, d3⟩ := Ub.c HP2.out.ub
             clear hb)
          | (go_at_call_of 13 uk
             refine (HG1 _ HP2.out.st).out.mono ?_
             rintro e w7 ⟨rfl, hb⟩
             have HP3 := Lib.hid (HP2.out.next hb rfl rfl rfl rfl)
             obtain ⟨d0, d1, d2, d3⟩ := Ub.c HP3.out.ub
             clear hb)
          | (go_at_call_of 14 uk
             refine (HR1 _ (isUs_below HI.out HP3.out.bel)).out.mono ?_
             rintro e w8 ⟨rfl, hb⟩
             have HP4 := Lib.hid (HP3.out.next hb rfl rfl rfl rfl)
             obtain ⟨d0, d1, d2, d3⟩ := Ub.c HP4.out.ub
             clear hb)
          | (go_at_call_of 13 key
             refine (HG2 _ HP4.out.st).out.mono ?_
             rintro e w9 ⟨rfl, hb⟩
             have HP5 := Lib.hid (HP4.out.next hb rfl rfl rfl rfl)
             obtain ⟨d0, d1, d2, d3⟩ := Ub.c HP5.out.ub
             clear hb)
          | (go_at_call_of 14 key
             refine (HR2 _ (isUs_below HI.out HP5.out.bel)).out.mono ?_
             rintro e w10 ⟨rfl, hb⟩
             have HP6 := Lib.hid (HP5.out.next hb rfl rfl rfl rfl)
             obtain ⟨d0, d1, d2, d3⟩ := Ub.c HP6.out.ub
             clear hb))
      go_wp2
      go_roundw
      case rel => exact ⟨k + 1, by omega, by go_num, HP6.out.st, HP6.out.bel⟩
      case measure => simp [intOf]; omega
    · obtain rfl : k = len := by omega
      rw [take_all hsz] at hst
      have hgd : Sh (stF us (ky key)).2.2 := (gd_st us (fun u hu => (HS.out u hu).2) _).2.2
      have HG1 := fun W h => Lib.hid (get_any b1 m1 k (stF us) key hk1 hgd W h)
      have HR1 := fun W h => Lib.hid (rget_any key a k cap us (fun u hu => (HS.out u hu).2) (by omega) W h)
      have HST := Lib.hid hst
      have HBEL := Lib.hid hbel
      clear hst hbel hgd
      generalize stF us (ky key) = r at HG1 HR1
      obtain ⟨rk, rn, rs⟩ := r
      simp only [vv_eq] at HG1 HR1
      go_wp2_with fail
      refine (HG1 _ HST.out).out.mono ?_
      rintro e w5 ⟨rfl, hb5⟩
      have HB5 := Lib.hid (Below.next HBEL.out hb5)
      clear hb5 HST HBEL
      go_wp2_with fail
      refine (HR1 _ (isUs_below H.out HB5.out)).out.mono ?_
      rintro e w6 ⟨rfl, hb6⟩
      have HB6 := Lib.hid (Below.next HB5.out hb6)
      clear hb6 HB5
      go_wp2
      go_ret
      exact ⟨rfl, HB6.out⟩
end Go.Proofs.Ytfcbilpbcofcfaa
