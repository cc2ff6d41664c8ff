/- The walk of RoundFits. -/
import Derived.Test.YtcknklodnfabpaaDoorXL1
import Derived.Test.YtcknklodnfabpaaDoorXAP
namespace Go.Proofs.YtcknklodnfabpaaDoor
open Go Go.RowKit
/-- Within RoundFits: the two numbers that came, beside what is made. -/
structure LF (w wr : World) (x y : Int) (a : Option Addr) (len : Nat) (us : List Up) : Prop where
  d : Wd wr
  xb : wr.heap[w.heap.size]? = some (.cells #[.int .i64 x, .int .i64 y] 39 (0, 0))
  us : IsUs wr a len us
  bel : Below w.heap.size w wr
section
variable {w wr w' : World} {x y : Int} {a : Option Addr} {len : Nat} {us : List Up}
theorem LF.start (hd : Wd w) (hu : IsUs w a len us) (x y : Int) : LF w (w.alloc (.cells #[.int .i64 x, .int .i64 y] 39)) x y a len us :=
  have hB := Joins.below_alloc1 w (.cells #[.int .i64 x, .int .i64 y] 39)
  ⟨hd.alloc _, heap_alloc_new _ _, isUs_below hu hB, hB⟩
theorem LF.next (h : LF w wr x y a len us) (hb : Below wr.heap.size wr w') : LF w w' x y a len us :=
  ⟨h.d.below hb, (hb.block _ (Array.getElem?_eq_some_iff.1 h.xb).1).trans h.xb, isUs_below h.us hb, Below.next h.bel hb⟩
theorem LF.c0 (h : LF w wr x y a len us) : wr.cell? ⟨w.heap.size, 0, none⟩ = some (.int .i64 x) := by have := h.xb; simp [World.cell?, this]
theorem LF.c1 (h : LF w wr x y a len us) : wr.cell? ⟨w.heap.size, 1, none⟩ = some (.int .i64 y) := by have := h.xb; simp [World.cell?, this]
end
set_option maxHeartbeats 4000000 in
theorem walkFits (a : Option Addr) (len cap : Nat) (us : List Up) (mtu x y : Int) (w : World) (hd : Wd w) (hu : IsUs w a len us) (hcap : len ≤ cap) (hno : a = none → cap = 0) : Calls Tryd.prog 7 #[.slice a len cap, .int .i64 mtu, .agg #[.int .i64 x, .int .i64 y]] w fun e w' => e = .returned (.bool true) ∧ Below w.heap.size w w' := by
  by_cases hg : gAll len us
  · have HG := fun w h => Lib.hid (greatAll_yes a len cap us hg w h)
    clear hg
    have hs := LF.start hd hu x y
    have hsz := hu.size
    have H0 := Lib.hid hs
    clear hs hd hu
    go_enter Tryd.func7, Tryd.ntmps7
    go_wp2_with fail
    refine (awake_yes _ H0.out.d).mono ?_
    rintro e1 w1 ⟨rfl, hb⟩
    have H1 := Lib.hid (H0.out.next hb)
    clear hb H0 
    go_wp2_with fail
    refine ((HG _ H1.out.us).out).mono ?_
    rintro e2 w2 ⟨rfl, hb⟩
    have H2 := Lib.hid (H1.out.next hb)
    clear hb H1 HG
    go_wp2_with fail
    refine (awake_yes _ H2.out.d).mono ?_
    rintro e3 w3 ⟨rfl, hb⟩
    have H3 := Lib.hid (H2.out.next hb)
    clear hb H2 
    go_wp2
    go_ret
    exact ⟨rfl, H3.out.bel⟩
  have HG := fun w h => Lib.hid (greatAll_no a len cap us hg w h)
  clear hg
  by_cases hl : 20 < len
  · have q1 : decide ((20 : Int) < (len : Int)) = true := decide_eq_true (by omega)
    have hs := LF.start hd hu x y
    have hsz := hu.size
    have H0 := Lib.hid hs
    clear hs hd hu
    go_enter Tryd.func7, Tryd.ntmps7
    go_wp2_with fail
    refine (awake_yes _ H0.out.d).mono ?_
    rintro e1 w1 ⟨rfl, hb⟩
    have H1 := Lib.hid (H0.out.next hb)
    clear hb H0 
    go_wp2_with fail
    refine ((HG _ H1.out.us).out).mono ?_
    rintro e2 w2 ⟨rfl, hb⟩
    have H2 := Lib.hid (H1.out.next hb)
    clear hb H1 HG
    go_wp2_with fail
    refine (awake_yes _ H2.out.d).mono ?_
    rintro e3 w3 ⟨rfl, hb⟩
    have H3 := Lib.hid (H2.out.next hb)
    clear hb H2 
    go_wp2
    go_ret
    exact ⟨rfl, H3.out.bel⟩
  have q1 : decide ((20 : Int) < (len : Int)) = false := decide_eq_false (by omega)
  have HF := fun a cap w hd h => Lib.hid (rndfits_any a len cap us mtu w hd h)
  have HR := fun w h => Lib.hid (docfits_any a len cap us mtu w h)
  have HP := fun w hd h => Lib.hid (rndput_any x y a len cap us w hd h)
  by_cases hf : fitsB us mtu = true
  · have hff := hf
    unfold fitsB at hff
    obtain ⟨f1, f2, f3, f4⟩ := of_decide_eq_true hff
    rw [hf] at HF HR
    by_cases hm : mayR x y us = 0
    · have hle := fits_r x y us (mayR_zero hm).1
      rw [show putR x y us = pxR x y us from if_pos hm] at HP
      rw [hm] at HP
      generalize pxR 64 1099511627776 us = pg at *
      generalize pxR x y us = px at *
      have q2 : decide ((px.size : Int) ≤ mtu - 40) = true := decide_eq_true (by omega)
      clear hff hf hm hle f3 f4
      have hs := LF.start hd hu x y
      have hsz := hu.size
      have H0 := Lib.hid hs
      clear hs hd hu
      go_enter Tryd.func7, Tryd.ntmps7
      go_wp2_with fail
      refine (awake_yes _ H0.out.d).mono ?_
      rintro e1 w1 ⟨rfl, hb⟩
      have H1 := Lib.hid (H0.out.next hb)
      clear hb H0 
      go_wp2_with fail
      refine ((HG _ H1.out.us).out).mono ?_
      rintro e2 w2 ⟨rfl, hb⟩
      have H2 := Lib.hid (H1.out.next hb)
      clear hb H1 HG
      go_wp2_with (at_builtin; refine wpList_app0 w2 rfl _ _ rfl rfl a len cap rfl us H2.out.us hcap hno (by omega) ?_)
      intro a' c' w3 hu3 hb3 _
      have H3 := Lib.hid (H2.out.next hb3)
      have HU3 := Lib.hid hu3
      clear hu3 hb3 H2
      go_wp2_with fail
      refine (HF _ _ _ H3.out.d HU3.out).out.mono ?_
      rintro e4 w4 ⟨rfl, hb⟩
      have H4 := Lib.hid (H3.out.next hb)
      clear hb H3 HU3 HF
      go_wp2_with fail
      refine (HR _ H4.out.us).out.mono ?_
      rintro e5 w5 ⟨rfl, hb⟩
      have hs := H4.out.next hb
      have c0 := hs.c0
      have c1 := hs.c1
      have H5 := Lib.hid hs
      clear hb hs H4 HR
      go_wp2_with fail
      refine ((HP _ H5.out.d H5.out.us).out).mono ?_
      rintro e6 w6 ⟨rfl, hb⟩
      have H6 := Lib.hid (H5.out.next hb)
      clear hb H5 HP c0 c1
      go_wp2
      go_ret
      exact ⟨rfl, H6.out.bel⟩
    · generalize putR x y us = px at *
      generalize mayR x y us = me at *
      have k1 : (me == 0) = false := by rw [beq_eq_false_iff_ne]; exact hm
      have k2 : (me != 0) = true := by rw [bne_iff_ne]; exact hm
      clear hff hf hm f3 f4
      have hs := LF.start hd hu x y
      have hsz := hu.size
      have H0 := Lib.hid hs
      clear hs hd hu
      go_enter Tryd.func7, Tryd.ntmps7
      go_wp2_with fail
      refine (awake_yes _ H0.out.d).mono ?_
      rintro e1 w1 ⟨rfl, hb⟩
      have H1 := Lib.hid (H0.out.next hb)
      clear hb H0 
      go_wp2_with fail
      refine ((HG _ H1.out.us).out).mono ?_
      rintro e2 w2 ⟨rfl, hb⟩
      have H2 := Lib.hid (H1.out.next hb)
      clear hb H1 HG
      go_wp2_with (at_builtin; refine wpList_app0 w2 rfl _ _ rfl rfl a len cap rfl us H2.out.us hcap hno (by omega) ?_)
      intro a' c' w3 hu3 hb3 _
      have H3 := Lib.hid (H2.out.next hb3)
      have HU3 := Lib.hid hu3
      clear hu3 hb3 H2
      go_wp2_with fail
      refine (HF _ _ _ H3.out.d HU3.out).out.mono ?_
      rintro e4 w4 ⟨rfl, hb⟩
      have H4 := Lib.hid (H3.out.next hb)
      clear hb H3 HU3 HF
      go_wp2_with fail
      refine (HR _ H4.out.us).out.mono ?_
      rintro e5 w5 ⟨rfl, hb⟩
      have hs := H4.out.next hb
      have c0 := hs.c0
      have c1 := hs.c1
      have H5 := Lib.hid hs
      clear hb hs H4 HR
      go_wp2_with fail
      refine ((HP _ H5.out.d H5.out.us).out).mono ?_
      rintro e6 w6 ⟨rfl, hb⟩
      have H6 := Lib.hid (H5.out.next hb)
      clear hb H5 HP c0 c1
      go_wp2
      go_ret
      exact ⟨rfl, H6.out.bel⟩
  · have hf : fitsB us mtu = false := by cases e : fitsB us mtu <;> simp_all
    rw [hf] at HF HR
    generalize putR x y us = px at *
    generalize mayR x y us = me at *
    clear hf
    have hs := LF.start hd hu x y
    have hsz := hu.size
    have H0 := Lib.hid hs
    clear hs hd hu
    go_enter Tryd.func7, Tryd.ntmps7
    go_wp2_with fail
    refine (awake_yes _ H0.out.d).mono ?_
    rintro e1 w1 ⟨rfl, hb⟩
    have H1 := Lib.hid (H0.out.next hb)
    clear hb H0 
    go_wp2_with fail
    refine ((HG _ H1.out.us).out).mono ?_
    rintro e2 w2 ⟨rfl, hb⟩
    have H2 := Lib.hid (H1.out.next hb)
    clear hb H1 HG
    go_wp2_with (at_builtin; refine wpList_app0 w2 rfl _ _ rfl rfl a len cap rfl us H2.out.us hcap hno (by omega) ?_)
    intro a' c' w3 hu3 hb3 _
    have H3 := Lib.hid (H2.out.next hb3)
    have HU3 := Lib.hid hu3
    clear hu3 hb3 H2
    go_wp2_with fail
    refine (HF _ _ _ H3.out.d HU3.out).out.mono ?_
    rintro e4 w4 ⟨rfl, hb⟩
    have H4 := Lib.hid (H3.out.next hb)
    clear hb H3 HU3 HF
    go_wp2_with fail
    refine (HR _ H4.out.us).out.mono ?_
    rintro e5 w5 ⟨rfl, hb⟩
    have hs := H4.out.next hb
    have c0 := hs.c0
    have c1 := hs.c1
    have H5 := Lib.hid hs
    clear hb hs H4 HR
    go_wp2_with fail
    refine ((HP _ H5.out.d H5.out.us).out).mono ?_
    rintro e6 w6 ⟨rfl, hb⟩
    have H6 := Lib.hid (H5.out.next hb)
    clear hb H5 HP c0 c1
    go_wp2
    go_ret
    exact ⟨rfl, H6.out.bel⟩
end Go.Proofs.YtcknklodnfabpaaDoor
