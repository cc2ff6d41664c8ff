/- LinkLate. -/
import Derived.Test.YtclobdejlihblaaJP
namespace Go.Proofs.Ytclobdejlihblaa
open Go Go.RowKit
set_option maxRecDepth 20000
theorem take_snoc {ts : List ByteArray} {i : Nat} (hi : i < ts.length) : ts.take (i + 1) = ts.take i ++ [ts.getD i emp] := by
  rw [List.take_add_one, List.getElem?_eq_getElem hi, List.getD_eq_getElem?_getD, List.getElem?_eq_getElem hi]
  rfl
theorem RowF.f4n {B w g n c fs} (h : RowF B w (.slice (some ⟨g, 0, none⟩) n c) fs) (hn : fs.length = n) (i : Nat) (hi : i < n) : F4 w g (i * 4) (fs.getD i fr0) := by
  subst hn
  exact h.f4 i hi
/-- Room is left: the offer is taken. -/
theorem late_off {l : List ByteArray} (x : ByteArray) (hl : l.length < 16) : (⟨3, 16, 16, false, 0, l, 0, []⟩ : En).off x = ⟨3, 16, 16, false, 0, l ++ [x], 0, []⟩ ∧ (⟨3, 16, 16, false, 0, l, 0, []⟩ : En).offe = 0 := by
  have e1 : winOf 16 = 16 := rfl
  have e2 : lastOf 1125899906842624 = 1125899906842624 := rfl
  unfold En.off En.offe offD offE
  simp only [e1, e2]
  rw [if_neg (by omega), if_neg (by omega), if_neg (by omega), if_neg (by omega)]
  exact ⟨rfl, rfl⟩
theorem fr_none {ep wa ra : Int} {pas : Bool} {k q : Nat} {ps : List ByteArray} (h : ep ≠ 0) : (⟨ep, wa, ra, pas, k, [], q, ps⟩ : En).frames = [(ep, 0, ((q + ps.length : Nat) : Int), ⟨#[]⟩)] := by
  unfold En.frames En.ackn
  simp only
  rw [if_neg h, if_pos (show ([] : List ByteArray).length = 0 from rfl)]
theorem fr_some {ep wa ra : Int} {pas : Bool} {k q : Nat} {ds ps : List ByteArray} (h : ep ≠ 0) (hd : ds.length ≠ 0) : (⟨ep, wa, ra, pas, k, ds, q, ps⟩ : En).frames = frs ep ((q + ps.length : Nat) : Int) k ds := by
  unfold En.frames En.ackn
  simp only
  rw [if_neg h, if_neg hd]
theorem late_frames {ts : List ByteArray} (h : 0 < ts.length) : (⟨3, 16, 16, false, 0, ts, 0, []⟩ : En).frames = frs 3 0 0 ts := by
  rw [fr_some (by decide) (by omega)]
  rfl
theorem late_frames2 {ts : List ByteArray} : (⟨3, 16, 16, true, 0, [], 0, ts⟩ : En).frames = [(3, 0, (ts.length : Int), ⟨#[]⟩)] := by
  rw [fr_none (by decide), Nat.zero_add]
/-- The other end, behind so many frames. -/
def lateB (ts : List ByteArray) (j : Nat) : En := if j = 0 then ⟨0, 16, 16, true, 0, [], 0, []⟩ else ⟨3, 16, 16, true, 0, [], 0, ts.take j⟩
theorem late_q (ts : List ByteArray) (j : Nat) : (lateB ts j).q + (lateB ts j).ps.length ≤ ts.length := by
  unfold lateB
  split
  · exact Nat.zero_le _
  · simp only [List.length_take]; omega
theorem late_all {ts : List ByteArray} {n : Nat} (h : 0 < ts.length) (hn : ts.length = n) : lateB ts n = ⟨3, 16, 16, true, 0, [], 0, ts⟩ := by
  unfold lateB
  rw [if_neg (by omega), List.take_of_length_le (by omega)]
theorem late_takes {ps : List ByteArray} {x : ByteArray} (h : ps.length < 16) : Rcv.hearD (Rcv.roomOf 16) 0 ps ((ps.length + 1 : Nat) : Int) x = ps ++ [x] := by
  unfold Rcv.hearD
  rw [if_pos ⟨by simp, by show (ps.length : Int) < 16; omega⟩]
theorem late_hear {ts : List ByteArray} {j : Nat} (hj : j < ts.length) (h16 : ts.length ≤ 16) : (lateB ts j).hear (3, ((j + 1 : Nat) : Int), 0, ts.getD j emp) = lateB ts (j + 1) := by
  have hl : (ts.take j).length = j := by rw [List.length_take]; omega
  have ht := late_takes (ps := ts.take j) (x := ts.getD j emp) (by omega)
  rw [hl, ← take_snoc hj] at ht
  unfold lateB
  rw [if_neg (show ¬ j + 1 = 0 by omega)]
  by_cases h0 : j = 0
  · subst h0
    rw [if_pos rfl]
    unfold En.hear
    rw [if_neg (by simp), if_pos (by simp)]
    unfold En.fresh En.take
    simp only [List.take_zero] at ht
    simp only [List.length_nil, List.drop_nil]
    have e1 : clampE 3 = 3 := rfl
    have e2 : ackM 0 0 0 = 0 := rfl
    rw [ht, e1, e2]
  · rw [if_neg h0]
    unfold En.hear
    rw [if_neg (by simp), if_neg (by simp)]
    unfold En.take
    simp only [List.length_nil, List.drop_nil]
    have e2 : ackM 0 0 0 = 0 := rfl
    rw [ht, e2]
/-- A frame that was taken before changes nothing. -/
theorem late_again {q J : Nat} {ps : List ByteArray} {x : ByteArray} (h : J < q + ps.length) : (⟨3, 16, 16, true, 0, [], q, ps⟩ : En).hear (3, ((J + 1 : Nat) : Int), 0, x) = ⟨3, 16, 16, true, 0, [], q, ps⟩ ∧ (⟨3, 16, 16, true, 0, [], q, ps⟩ : En).anew (3, ((J + 1 : Nat) : Int), 0, x) = false := by
  have e1 : Rcv.hearD (Rcv.roomOf 16) q ps ((J + 1 : Nat) : Int) x = ps := by
    unfold Rcv.hearD
    rw [if_neg]
    rintro ⟨h', _⟩
    omega
  refine ⟨?_, rfl⟩
  unfold En.hear
  rw [if_neg (by simp), if_neg (by simp)]
  unfold En.take
  have e2 : ackM 0 0 0 = 0 := rfl
  simp only [List.length_nil, List.drop_nil, e1, e2]
/-- The place that any number names. -/
theorem late_ix (late : Int) (n : Nat) (hn : 0 < n) : ∃ J : Nat, J < n ∧ (IntKind.u64.wrap late).tmod (n : Int) = (J : Int) := by
  have h0 : 0 ≤ IntKind.u64.wrap late := by rw [IntKind.wrap_u64]; omega
  rw [Int.tmod_eq_emod_of_nonneg h0]
  have h1 := Int.emod_nonneg (IntKind.u64.wrap late) (show (n : Int) ≠ 0 by omega)
  have h2 := Int.emod_lt_of_pos (IntKind.u64.wrap late) (show (0 : Int) < (n : Int) by omega)
  exact ⟨((IntKind.u64.wrap late) % (n : Int)).toNat, by omega, by omega⟩
theorem drop_cons {ts : List ByteArray} {i : Nat} (hi : i < ts.length) : ts.drop i = ts.getD i emp :: ts.drop (i + 1) := by
  rw [List.drop_eq_getElem_cons hi, List.getD_eq_getElem?_getD, List.getElem?_eq_getElem hi]
  rfl
set_option maxHeartbeats 4000000 in
theorem late_long (a : Option Addr) (len cap : Nat) (late : Int) (hl : 16 < len) (w : World) :
    Calls Try.prog 7 #[.slice a len cap, .int .i64 late] w fun e w' => e = .returned (.bool true) ∧ Below w.heap.size w w' := by
  have k1 : decide ((16 : Int) < (len : Int)) = true := decide_eq_true (by omega)
  have HW := Lib.hid (Below.refl w.heap.size w)
  go_enter Try.func7, Try.ntmps7
  go_wp2_with fail
  refine (tu_new 3 16 16 false HW.out (Nat.le_refl _)).mono ?_
  rintro e w1 ⟨rfl, ⟨cs, cr, h⟩, _⟩
  generalize hB0 : w.heap.size = B0 at *
  have HB0 := Lib.hid hB0
  have H1 : Hid (Tu B0 w w1 B0 cs cr ⟨3, 16, 16, false, 0, [], 0, []⟩) := Lib.hid h
  clear h hB0 HW
  go_wp2_with fail
  refine (tq_new 0 16 16 true H1.out).mono ?_
  rintro e w2 ⟨rfl, ⟨bs, br, h⟩, _⟩
  generalize w1.heap.size = b at h ⊢
  have H2 : Hid (Tq B0 w w2 B0 cs cr ⟨3, 16, 16, false, 0, [], 0, []⟩ b bs br ⟨0, 16, 16, true, 0, [], 0, []⟩) := Lib.hid h
  clear h H1
  go_wp2_with fail
  refine (awake_yes _).mono ?_
  rintro e w3 ⟨rfl, hb⟩
  have H3 := Lib.hid (H2.out.next hb)
  clear hb H2
  go_wp2_with fail
  refine (awake_yes _).mono ?_
  rintro e w4 ⟨rfl, hb⟩
  have H4 := Lib.hid (H3.out.next hb)
  clear hb H3
  go_wp2
  go_ret
  exact ⟨rfl, by rw [HB0.out]; exact H4.out.bel⟩
set_option maxHeartbeats 4000000 in
theorem late_none (a : Option Addr) (cap : Nat) (late : Int) (w : World) :
    Calls Try.prog 7 #[.slice a 0 cap, .int .i64 late] w fun e w' => e = .returned (.bool true) ∧ Below w.heap.size w w' := by
  have HW := Lib.hid (Below.refl w.heap.size w)
  go_enter Try.func7, Try.ntmps7
  go_wp2_with fail
  refine (tu_new 3 16 16 false HW.out (Nat.le_refl _)).mono ?_
  rintro e w1 ⟨rfl, ⟨cs, cr, h⟩, _⟩
  generalize hB0 : w.heap.size = B0 at *
  have HB0 := Lib.hid hB0
  have H1 : Hid (Tu B0 w w1 B0 cs cr ⟨3, 16, 16, false, 0, [], 0, []⟩) := Lib.hid h
  clear h hB0 HW
  go_wp2_with fail
  refine (tq_new 0 16 16 true H1.out).mono ?_
  rintro e w2 ⟨rfl, ⟨bs, br, h⟩, _⟩
  generalize w1.heap.size = b at h ⊢
  have H2 : Hid (Tq B0 w w2 B0 cs cr ⟨3, 16, 16, false, 0, [], 0, []⟩ b bs br ⟨0, 16, 16, true, 0, [], 0, []⟩) := Lib.hid h
  clear h H1
  go_wp2_with fail
  refine (awake_yes _).mono ?_
  rintro e w3 ⟨rfl, hb⟩
  have H3 := Lib.hid (H2.out.next hb)
  clear hb H2
  go_wp2_with fail
  refine (awake_yes _).mono ?_
  rintro e w4 ⟨rfl, hb⟩
  have H4 := Lib.hid (H3.out.next hb)
  clear hb H3
  go_wp2
  go_ret
  exact ⟨rfl, by rw [HB0.out]; exact H4.out.bel⟩
set_option maxHeartbeats 16000000 in
theorem late_yes (a : Option Addr) (len cap : Nat) (late : Int) (h0 : 0 < len) (hl : len ≤ 16) (ts : List ByteArray) (w : World) (hi : SsAt w a len ts) :
    Calls Try.prog 7 #[.slice a len cap, .int .i64 late] w fun e w' => e = .returned (.bool true) ∧ Below w.heap.size w w' := by
  have k1 : decide ((16 : Int) < (len : Int)) = false := decide_eq_false (by omega)
  have k3 : decide ((len : Int) = 0) = false := decide_eq_false (by omega)
  have k4 : ((len : Int) == 0) = false := beq_eq_false_iff_ne.2 (by omega)
  have HI := Lib.hid hi
  clear hi
  have HW := Lib.hid (Below.refl w.heap.size w)
  go_enter Try.func7, Try.ntmps7
  go_wp2_with fail
  refine (tu_new 3 16 16 false HW.out (Nat.le_refl _)).mono ?_
  rintro e w1 ⟨rfl, ⟨cs, cr, h⟩, _⟩
  generalize hB0 : w.heap.size = B0 at *
  have HB0 := Lib.hid hB0
  have H1 : Hid (Tu B0 w w1 B0 cs cr ⟨3, 16, 16, false, 0, [], 0, []⟩) := Lib.hid h
  clear h hB0 HW
  go_wp2_with fail
  refine (tq_new 0 16 16 true H1.out).mono ?_
  rintro e w2 ⟨rfl, ⟨bs, br, h⟩, _⟩
  generalize w1.heap.size = b at h ⊢
  have H2 : Hid (Tq B0 w w2 B0 cs cr ⟨3, 16, 16, false, 0, [], 0, []⟩ b bs br ⟨0, 16, 16, true, 0, [], 0, []⟩) := Lib.hid h
  clear h H1
  go_wp2_with fail
  refine (awake_yes _).mono ?_
  rintro e w3 ⟨rfl, hb⟩
  have H3 := Lib.hid (H2.out.next hb)
  clear hb H2
  go_wp2_with fail
  go_loopw [42] (fun v42 wr => ∃ i : Nat, i ≤ len ∧ v42 = .int .i64 i ∧ Tq B0 w wr B0 cs cr ⟨3, 16, 16, false, 0, ts.take i, 0, []⟩ b bs br ⟨0, 16, 16, true, 0, [], 0, []⟩) (fun v42 _ => len - (intOf v42).toNat)
  case atStart => exact ⟨0, Nat.zero_le _, rfl, H3.out⟩
  case round =>
    obtain ⟨i, hi, rfl, h⟩ := hrel
    clear H3
    by_cases hlt : i < len
    · obtain ⟨g, off, rfl, hgl, hc⟩ := HI.out.lies (by omega)
      have c0 := (h.bel.cell (p := ⟨g, off + i, none⟩) (by rw [← HB0.out]; exact hgl)).trans (hc i (by have := HI.out.size; omega))
      have H := Lib.hid h
      have HT := Lib.hid (take_snoc (show i < ts.length by have := HI.out.size; omega))
      clear h hc hgl
      generalize ts.getD i emp = x at *
      by_cases hx : 50 < x.size
      · have k2 : decide ((50 : Int) < (x.size : Int)) = true := decide_eq_true (by omega)
        go_wp2
        go_ret
        exact ⟨rfl, by rw [HB0.out]; exact H.out.bel⟩
      have k2 : decide ((50 : Int) < (x.size : Int)) = false := decide_eq_false (by omega)
      have HO := Lib.hid (late_off (l := ts.take i) x (by rw [List.length_take]; omega))
      go_wp2_with fail
      refine (tq_offE x HO.out.1 HO.out.2 (by omega) H.out).mono ?_
      rintro e w4 ⟨rfl, h4, _⟩
      rw [← HT.out] at h4
      have H4 := Lib.hid h4
      clear h4 H
      go_wp2
      go_roundw
      case rel => exact ⟨i + 1, by omega, by go_num, H4.out⟩
      case measure => simp [intOf]; omega
    · obtain rfl : i = len := by omega
      have hts : ts.take i = ts := List.take_of_length_le (by have := HI.out.size; omega)
      rw [hts] at h
      have H := Lib.hid h.swap
      have hsz := HI.out.size
      have HLN := Lib.hid hsz
      have HSHA : Hid (∀ d ∈ ts, d.size ≤ 1000) := Lib.hid (by
        obtain ⟨v, L, u, M, h1, h2, h3⟩ := h.ex
        exact h1.sn.ok.sh)
      obtain ⟨G, hG⟩ : ∃ G, frs 3 0 0 ts = G := ⟨_, rfl⟩
      have HGL : Hid (G.length = i) := Lib.hid (by rw [← hG, frs_len, hsz])
      have HGG : Hid (∀ j, j < i → G.getD j fr0 = (3, ((j + 1 : Nat) : Int), 0, ts.getD j emp)) := Lib.hid fun j hj => by
        rw [← hG, frs_get _ _ _ _ j (by omega)]
        simp
      have HFR : Hid ((⟨3, 16, 16, false, 0, ts, 0, []⟩ : En).frames = G) := Lib.hid (by rw [← hG]; exact late_frames (by omega))
      clear h hts hsz hG
      go_wp2_with fail
      refine (tq_frames HFR.out HGL.out H.out.swap).mono ?_
      rintro e w5 ⟨al, cl, rfl, hr, hb, h⟩
      have H5 := Lib.hid h.swap
      obtain ⟨Bl, hBl⟩ : ∃ n, wr.heap.size = n := ⟨_, rfl⟩
      rw [hBl] at hr
      clear hBl
      rcases hr.2 with ⟨hv, h0⟩ | ⟨g, cap', cur, hv, _⟩
      · rw [HGL.out] at h0; omega
      rw [HGL.out] at hv
      cases hv
      have HR := Lib.hid hr
      clear hr hb h H
      go_wp2_with fail
      go_loopw [63] (fun v63 wr => ∃ j : Nat, j ≤ i ∧ v63 = .int .i64 j ∧ ∃ bs br, Tq B0 w wr b bs br (lateB ts j) B0 cs cr ⟨3, 16, 16, false, 0, ts, 0, []⟩ ∧ RowF Bl wr (.slice (some ⟨g, 0, none⟩) i cl) G) (fun v63 _ => i - (intOf v63).toNat)
      case atStart => exact ⟨0, Nat.zero_le _, rfl, _, _, H5.out, HR.out⟩
      case round =>
        obtain ⟨j, hj, rfl, bs, br, h, hr⟩ := hrel
        clear H5 HR
        by_cases hlt : j < i
        · obtain ⟨d0, d1, d2, d3⟩ := RowF.f4n hr HGL.out j hlt
          rw [HGG.out j hlt] at d0 d1 d2 d3
          simp only at d0 d1 d2 d3
          have HSH : Hid ((ts.getD j emp).size ≤ 1000) := Lib.hid (HSHA.out _ (getD_mem (by rw [HLN.out]; exact hlt)))
          have HE := Lib.hid (late_hear (ts := ts) (j := j) (by rw [HLN.out]; exact hlt) (by rw [HLN.out]; omega))
          obtain ⟨an, han⟩ : ∃ an, (lateB ts j).anew (3, ((j + 1 : Nat) : Int), 0, ts.getD j emp) = an := ⟨_, rfl⟩
          have HAN := Lib.hid han
          have hal := h.next (Joins.below_alloc1 wr (.cells #[.int .i64 3, .int .i64 ((j + 1 : Nat) : Int), .int .i64 0, .string (ts.getD j emp)] 31))
          have H := Lib.hid hal
          have HR := Lib.hid (hr.alloc (.cells #[.int .i64 3, .int .i64 ((j + 1 : Nat) : Int), .int .i64 0, .string (ts.getD j emp)] 31))
          clear h hr hal han
          generalize ts.getD j emp = x at *
          obtain ⟨Q, hQ⟩ : ∃ Q : Int, ((j + 1 : Nat) : Int) = Q := ⟨_, rfl⟩
          rw [hQ] at d1 HE H HR HAN
          clear hQ
          go_wp2_with fail
          refine (tq_hearE (f := (3, Q, 0, x)) HE.out HAN.out HSH.out (by have := late_q ts j; have := HLN.out; omega) H.out).mono ?_
          rintro e w6 ⟨rfl, ⟨bs2, br2, h⟩, ho⟩
          have H6 := Lib.hid h
          have HR6 := Lib.hid (HR.out.oth ho)
          clear h ho H HR d0 d1 d2 d3 HE HAN
          go_wp2
          go_roundw
          case rel => exact ⟨j + 1, by omega, by go_num, _, _, H6.out, HR6.out⟩
          case measure => simp [intOf]; omega
        · obtain rfl : j = i := by omega
          have hB : lateB ts j = ⟨3, 16, 16, true, 0, [], 0, ts⟩ := late_all (by rw [HLN.out]; omega) HLN.out
          rw [hB] at h
          have H := Lib.hid h
          have HR := Lib.hid hr
          clear h hr hB
          have HF2 : Hid ((⟨3, 16, 16, true, 0, [], 0, ts⟩ : En).frames = [(3, 0, (j : Int), ⟨#[]⟩)]) := Lib.hid (by rw [late_frames2, HLN.out])
          go_wp2_with fail
          refine (tq_frames (n := 1) HF2.out rfl H.out).mono ?_
          rintro e w7 ⟨am, cm, rfl, hr, hb, h⟩
          have H7 := Lib.hid h
          have HR7 := Lib.hid (HR.out.below hb)
          have HM7 := Lib.hid hr
          clear hr hb h H HR
          obtain ⟨J, hJ, e0⟩ := late_ix late j (by omega)
          have e1 : wrap64 ((IntKind.u64.wrap late).tmod (j : Int)) = (J : Int) := by rw [e0]; unfold wrap64; omega
          have HJ := Lib.hid hJ
          have HSJ : Hid ((ts.getD J emp).size ≤ 1000) := Lib.hid (HSHA.out _ (getD_mem (by rw [HLN.out]; exact hJ)))
          have HGJ := Lib.hid (HGG.out J hJ)
          have HA1 := Lib.hid (late_again (q := 0) (ps := ts) (x := ts.getD J emp) (J := J) (by rw [HLN.out]; omega))
          have HA2 := Lib.hid (late_again (q := j) (ps := []) (x := ts.getD J emp) (J := J) (by simpa using hJ))
          obtain ⟨d0, d1, d2, d3⟩ := RowF.f4n HR7.out HGL.out J hJ
          rw [HGJ.out] at d0 d1 d2 d3
          simp only at d0 d1 d2 d3
          obtain ⟨y, hy⟩ : ∃ y, ts.getD J emp = y := ⟨_, rfl⟩
          obtain ⟨Q, hQ⟩ : ∃ Q : Int, ((J + 1 : Nat) : Int) = Q := ⟨_, rfl⟩
          rw [hy] at d3 HGJ HSJ HA1 HA2
          rw [hQ] at d1 HGJ HA1 HA2
          clear hy hQ
          go_wp2_with fail
          refine (tq_hearE (f := (3, Q, 0, y)) HA1.out.1 HA1.out.2 HSJ.out (by show 0 + ts.length ≤ 1000000; rw [HLN.out]; omega) H7.out).mono ?_
          rintro e w8 ⟨rfl, ⟨bs8, br8, h⟩, ho⟩
          have H8 := Lib.hid h
          have HR8 := Lib.hid (HR7.out.oth ho)
          have HM8 := Lib.hid (HM7.out.oth ho)
          have p5 := H8.out.t1.c5
          clear h ho H7 HR7 HM7 d0 d1 d2 d3 HA1
          go_wp2_with fail
          refine (tu_wait HLN.out _ H8.out.t1).mono ?_
          rintro e w9 ⟨rfl, rfl⟩
          go_wp2_with fail
          refine (tq_frames (n := 1) HF2.out rfl H8.out).mono ?_
          rintro e wa ⟨an, cn, rfl, hr, hb, h⟩
          have HA := Lib.hid h
          have HRA := Lib.hid (HR8.out.below hb)
          have HMA := Lib.hid (HM8.out.below hb)
          have HNA := Lib.hid hr
          clear hr hb h H8 HR8 HM8 p5
          go_wp2_with fail
          refine (samef_yes _ _ _ _ _ _ (by decide) _ (HNA.out.isF rfl).1 (HMA.out.isF rfl).1).mono ?_
          rintro e wb ⟨rfl, f1, f2, f3, f4⟩
          have HB := Lib.hid (HA.out.asit f1 f2 f3 f4)
          have HRB := Lib.hid (HRA.out.asit f1)
          clear f1 f2 f3 f4 HA HRA HMA HNA
          go_wp2_with fail
          go_loopw [107] (fun v107 wr => ∃ i : Nat, i ≤ j ∧ v107 = .int .i64 i ∧ Tq B0 w wr b bs8 br8 ⟨3, 16, 16, true, 0, [], i, ts.drop i⟩ B0 cs cr ⟨3, 16, 16, false, 0, ts, 0, []⟩ ∧ RowF Bl wr (.slice (some ⟨g, 0, none⟩) j cl) G) (fun v107 _ => j - (intOf v107).toNat)
          case atStart => exact ⟨0, Nat.zero_le _, rfl, HB.out, HRB.out⟩
          case round =>
            obtain ⟨i, hi, rfl, h, hr⟩ := hrel
            clear HB HRB
            by_cases hlt : i < j
            · obtain ⟨gt, off, rfl, hgl, hc⟩ := HI.out.lies (by omega)
              have c0 := (h.bel.cell (p := ⟨gt, off + i, none⟩) (by rw [← HB0.out]; exact hgl)).trans (hc i (by rw [HLN.out]; exact hlt))
              have HE : Hid (ts.drop i = ts.getD i emp :: ts.drop (i + 1)) := Lib.hid (drop_cons (by rw [HLN.out]; exact hlt))
              have H := Lib.hid h
              have HR := Lib.hid hr
              have p5 := h.t1.c5
              clear h hr hc hgl
              obtain ⟨x, hx⟩ : ∃ x, ts.getD i emp = x := ⟨_, rfl⟩
              rw [hx] at c0 HE
              clear hx
              have q5 := eq_yes x
              have HP : Hid ((⟨3, 16, 16, true, 0, [], i, ts.drop i⟩ : En).pop = ⟨3, 16, 16, true, 0, [], i + 1, ts.drop (i + 1)⟩) := Lib.hid (by rw [HE.out]; rfl)
              go_wp2_with fail
              refine (tq_popE (hd := x) (he := true) HP.out (by rw [HE.out]; rfl) (by rw [HE.out]; rfl) (by simp only [List.length_drop]; rw [HLN.out]; omega) H.out).mono ?_
              rintro e wc ⟨rfl, h, ho⟩
              have HC := Lib.hid h
              have HRC := Lib.hid (HR.out.oth ho)
              clear h ho H HR HP HE p5
              go_wp2
              go_roundw
              case rel => exact ⟨i + 1, by omega, by go_num, HC.out, HRC.out⟩
              case measure => simp [intOf]; omega
            · obtain rfl : i = j := by omega
              have hd : ts.drop i = [] := List.drop_eq_nil_of_le (by rw [HLN.out]; exact Nat.le_refl _)
              rw [hd] at h
              obtain ⟨d0, d1, d2, d3⟩ := RowF.f4n hr HGL.out J HJ.out
              rw [HGJ.out] at d0 d1 d2 d3
              simp only at d0 d1 d2 d3
              have H := Lib.hid h
              clear h hr hd
              go_wp2_with fail
              refine (tq_hearE (f := (3, Q, 0, y)) HA2.out.1 HA2.out.2 HSJ.out (by show i + 0 ≤ 1000000; omega) H.out).mono ?_
              rintro e wc ⟨rfl, ⟨bs9, br9, h⟩, _⟩
              have HC := Lib.hid h
              have p5 := h.t1.c5
              clear h H d0 d1 d2 d3
              go_wp2_with fail
              refine (tu_wait (n := 0) rfl _ HC.out.t1).mono ?_
              rintro e wd ⟨rfl, rfl⟩
              go_wp2
              go_ret
              exact ⟨rfl, by rw [HB0.out]; exact HC.out.bel⟩
end Go.Proofs.Ytclobdejlihblaa
