/- A reader that failed; the walk of the law PackStops. -/
import Derived.Test.YtgeafheoaffooaaDoorG1
namespace Go.Proofs.YtgeafheoaffooaaDoor
open Go Go.RowKit
set_option maxHeartbeats 400000 in
theorem num_dead (b : Nat) (err most : Int) (he : err ≠ 0) (m1 : -9223372036854775808 ≤ most) (m2 : most ≤ 9223372036854775807) (w : World) (hd : Wd w) (h : Rd w b ⟨#[]⟩ err) : Calls Tryd.prog 11 #[.pointer (some ⟨b, 0, none⟩), .int .i64 most] w fun x w' => x = .returned (.int .i64 0) ∧ w = w' := by
  have hbd := bd_bd most
  go_enter Tryd.func11, Tryd.ntmps11
  go_wp2_with fail
  refine (uns_dead b err he _ hd h).mono ?_
  rintro x w1 ⟨rfl, rfl⟩
  go_wp2_with fail
  refine (bound_any most m1 m2 _).mono ?_
  rintro x w2 ⟨rfl, rfl⟩
  generalize bd most = M at *
  go_wp2
  go_ret
  exact ⟨rfl, rfl⟩
set_option maxHeartbeats 400000 in
theorem sgn_dead (b : Nat) (err : Int) (he : err ≠ 0) (w : World) (hd : Wd w) (h : Rd w b ⟨#[]⟩ err) : Calls Tryd.prog 13 #[.pointer (some ⟨b, 0, none⟩)] w fun x w' => x = .returned (.int .i64 0) ∧ w = w' := by
  go_enter Tryd.func13, Tryd.ntmps13
  go_wp2_with fail
  refine (uns_dead b err he _ hd h).mono ?_
  rintro x w1 ⟨rfl, rfl⟩
  go_wp2_with fail
  refine (zag_yes 0 (by decide) (by decide) _ hd).mono ?_
  rintro x w2 ⟨rfl, rfl⟩
  rw [show zagS 0 = 0 from rfl]
  go_wp2
  go_ret
  exact ⟨rfl, rfl⟩
theorem txt_dead (b : Nat) (err most : Int) (he : err ≠ 0) (m1 : -9223372036854775808 ≤ most) (m2 : most ≤ 9223372036854775807) (w : World) (hd : Wd w) (h : Rd w b ⟨#[]⟩ err) : Calls Tryd.prog 15 #[.pointer (some ⟨b, 0, none⟩), .int .i64 most] w fun x w' => x = .returned (.string ⟨#[]⟩) ∧ Rd w' b ⟨#[]⟩ err ∧ w.grownBy w' (some b) := by
  have hn : Calls Tryd.prog 11 #[.pointer (some ⟨b, 0, none⟩), .int .i64 most] w fun x w' => x = .returned (.int .i64 ((0 : Nat) : Int)) ∧ Rd w' b ⟨#[]⟩ err ∧ w.grownBy w' (some b) :=
    (num_dead b err most he m1 m2 w hd h).mono fun _ _ hx => ⟨hx.1, hx.2 ▸ h, hx.2 ▸ grown_refl _ _⟩
  have := txt_in b 0 most err ⟨#[]⟩ (by decide) (by decide) w hn
  rw [emp_extract, emp_extract] at this
  exact this
theorem Rd.alloc {w : World} {b : Nat} {rest : ByteArray} {err : Int} (h : Rd w b rest err) (o : Obj) : Rd (w.alloc o) b rest err := (Below.heap_alloc w o b h.lt).trans h
theorem Wd.alloc {w : World} (h : Wd w) (o : Obj) : Wd (w.alloc o) := h.below ((Below.refl _ _).alloc (Nat.le_refl _) _)
set_option maxHeartbeats 2000000 in
set_option maxRecDepth 100000 in
theorem stops_great (s : ByteArray) (a : Option Addr) (len cap : Nat) (fs : List Fd) (e : Int) (hs : s.size ≤ 140737488355328) (hg : greatS s len fs ∨ e = 0) (w : World) (hd : Wd w) (h : IsFs w a len fs) :
    Calls Tryd.prog 6 #[.string s, .slice a len cap, .int .i64 e] w fun x w' => x = .returned (.bool true) ∧ Below w.heap.size w w' := by
  have H := Lib.hid h
  clear h
  go_enter Tryd.func6, Tryd.ntmps6
  go_wp2_with fail
  refine (read_any s hs _).mono ?_
  rintro x w1 ⟨r, hr, rfl, hr1, hb1⟩
  have hd1 := hd.below hb1
  have HB1 := Lib.hid hb1
  clear hb1 hr1
  go_wp2_with fail
  refine (awake_yes _ hd1).mono ?_
  rintro x w2 ⟨rfl, hb2⟩
  have hd2 := hd1.below hb2
  have HB2 := Lib.hid (HB1.out.trans (hb2.mono HB1.out.size))
  clear hb2 HB1 hd1
  have HF : Hid (IsFs w2 a len fs) := isFs_below H.out HB2.out
  by_cases hgg : greatS s len fs
  · go_wp2_with fail
    refine (great_yes s a len cap fs hgg _ HF.out).mono ?_
    rintro x w3 ⟨rfl, hb3⟩
    have hd3 := hd2.below hb3
    have HB3 := Lib.hid (HB2.out.trans (hb3.mono HB2.out.size))
    clear hb3 HB2 hd2 hg hgg
    go_wp2_with fail
    refine (awake_yes _ hd3).mono ?_
    rintro x w4 ⟨rfl, hb4⟩
    have HB4 := Lib.hid (HB3.out.trans (hb4.mono HB3.out.size))
    clear hb4
    go_wp2
    go_ret
    exact ⟨rfl, HB4.out⟩
  · obtain rfl : e = 0 := by
      rcases hg with hx | hx
      · exact absurd hx hgg
      · exact hx
    go_wp2_with fail
    refine (great_no s a len cap fs hgg _ HF.out).mono ?_
    rintro x w3 ⟨rfl, hb3⟩
    have hd3 := hd2.below hb3
    have HB3 := Lib.hid (HB2.out.trans (hb3.mono HB2.out.size))
    clear hb3 HB2 hd2 hg hgg
    go_wp2_with fail
    refine (awake_yes _ hd3).mono ?_
    rintro x w4 ⟨rfl, hb4⟩
    have HB4 := Lib.hid (HB3.out.trans (hb4.mono HB3.out.size))
    clear hb4
    go_wp2
    go_ret
    exact ⟨rfl, HB4.out⟩
set_option maxHeartbeats 2000000 in
set_option maxRecDepth 100000 in
theorem stops_play (s : ByteArray) (a : Option Addr) (len cap : Nat) (fs : List Fd) (e : Int) (hs : s.size ≤ 140737488355328) (hg : ¬ greatS s len fs) (he : e ≠ 0) (w : World) (hd : Wd w) (h : IsFs w a len fs) :
    Calls Tryd.prog 6 #[.string s, .slice a len cap, .int .i64 e] w fun x w' => x = .returned (.bool true) ∧ Below w.heap.size w w' := by
  have H := Lib.hid h
  have k1 : (e == 0) = false := by rw [beq_eq_false_iff_ne]; exact he
  have hpos := hd.pos
  have hl : len ≤ 200 := Nat.le_of_not_lt fun hx => hg (.inr (.inl hx))
  clear h
  go_enter Tryd.func6, Tryd.ntmps6
  go_wp2_with fail
  refine (read_any s hs _).mono ?_
  rintro x w1 ⟨r, hr, rfl, hr1, hb1⟩
  have hd1 := hd.below hb1
  have HB1 := Lib.hid hb1
  have HR1 := Lib.hid hr1
  clear hb1 hr1
  go_wp2_with fail
  refine (awake_yes _ hd1).mono ?_
  rintro x w2 ⟨rfl, hb2⟩
  have hd2 := hd1.below hb2
  have HB2 := Lib.hid (HB1.out.trans (hb2.mono HB1.out.size))
  have HR2 := Lib.hid (HR1.out.kept (row := none) (grown_below hb2) (by simp))
  clear hb2 HB1 hd1 HR1
  have HF : Hid (IsFs w2 a len fs) := isFs_below H.out HB2.out
  go_wp2_with fail
  refine (great_no s a len cap fs hg _ HF.out).mono ?_
  rintro x w3 ⟨rfl, hb3⟩
  have hd3 := hd2.below hb3
  have HB3 := Lib.hid (HB2.out.trans (hb3.mono HB2.out.size))
  have HR3 := Lib.hid (HR2.out.kept (row := none) (grown_below hb3) (by simp))
  clear hb3 HB2 hd2 hg HR2 HF
  go_wp2_with fail
  refine (fail_any s 0 0 e r _ HR3.out).mono ?_
  rintro x w4 ⟨rfl, hr4, hg4⟩
  rw [show failE 0 e = e from if_neg (by simp), rst_dead _ _ _ he] at hr4
  have HB4 := Lib.hid (HB3.out.grown hg4 HB3.out.size (fun k e => by simp at e; omega))
  have HR4 := Lib.hid hr4
  clear hr4 hg4 hd3 HB3 HR3
  have HD := Lib.hid hd
  clear hd
  go_wp2_with fail
  go_loopw [33] (fun v33 wr => ∃ k : Nat, k ≤ len ∧ v33 = .int .i64 k ∧ Rd wr r ⟨#[]⟩ e ∧ Below w.heap.size w wr) (fun v33 _ => len - (intOf v33).toNat)
  case atStart => exact ⟨0, Nat.zero_le _, rfl, HR4.out, HB4.out⟩
  case round =>
    obtain ⟨k, hk, rfl, hrd, hbel⟩ := hrel
    clear HB4 HR4
    have HBEL := Lib.hid hbel
    have HRD := Lib.hid hrd
    have hdr := HD.out.below hbel
    clear hbel hrd
    by_cases hlt : k < len
    · obtain ⟨b, off, rfl, hf⟩ := H.out.lies (by omega)
      have hfl := H.out.size
      have hb := hf.lt (by omega)
      have n1 := H.out.nlo k hlt
      have n2 := H.out.nhi k hlt
      have ck : wr.cell? ⟨b, off + k * 3, none⟩ = some (.int .i64 (fs.getD k fd0).1) := (HBEL.out.cell hb).trans (hf.k k (by omega))
      have cn : wr.cell? ⟨b, off + k * 3 + 1, none⟩ = some (.int .i64 (fs.getD k fd0).2.1) := (HBEL.out.cell hb).trans (hf.n k (by omega))
      have ct : wr.cell? ⟨b, off + k * 3 + 2, none⟩ = some (.string (fs.getD k fd0).2.2) := (HBEL.out.cell hb).trans (hf.t k (by omega))
      clear hf hfl hb
      generalize (fs.getD k fd0).2.2 = t at *
      generalize (fs.getD k fd0).2.1 = n at *
      generalize (fs.getD k fd0).1 = kd at *
      have hH : w.heap.size ≤ wr.heap.size := HBEL.out.size
      go_wp2_with fail
      refine (fail_no r _ e n he _ (HRD.out.alloc _)).mono ?_
      rintro x w5 ⟨rfl, rfl⟩
      go_wp2_with fail
      refine (num_dead r e n he n1 n2 _ (hdr.alloc _) (HRD.out.alloc _)).mono ?_
      rintro x w5 ⟨rfl, rfl⟩
      go_wp2_with fail
      refine (sgn_dead r e he _ (hdr.alloc _) (HRD.out.alloc _)).mono ?_
      rintro x w5 ⟨rfl, rfl⟩
      go_wp2_with fail
      refine (txt_dead r e n he n1 n2 _ (hdr.alloc _) (HRD.out.alloc _)).mono ?_
      rintro x w5 ⟨rfl, hr5, hg5⟩
      have HR5 := Lib.hid hr5
      have HB5 := Lib.hid ((HBEL.out.alloc hH _).grown hg5 (by simp; omega) (fun k e => by simp at e; omega))
      clear hr5 hg5 ck cn ct
      go_wp2_with fail
      refine (err_any r _ e _ HR5.out).mono ?_
      rintro x w6 ⟨rfl, rfl⟩
      go_wp2_with fail
      refine (end_emp e r _ HR5.out).mono ?_
      rintro x w6 ⟨rfl, rfl⟩
      go_wp2
      go_roundw
      case rel => exact ⟨k + 1, by omega, by go_num, HR5.out, HB5.out⟩
      case measure => simp [intOf]; omega
    · obtain rfl : k = len := by omega
      go_wp2_with fail
      refine (err_any r _ e _ HRD.out).mono ?_
      rintro x w6 ⟨rfl, rfl⟩
      go_wp2
      go_ret
      exact ⟨rfl, HBEL.out⟩
theorem walkStops (s : ByteArray) (a : Option Addr) (len cap : Nat) (fs : List Fd) (e : Int) (hs : s.size ≤ 140737488355328) (w : World) (hd : Wd w) (h : IsFs w a len fs) :
    Calls Tryd.prog 6 #[.string s, .slice a len cap, .int .i64 e] w fun x w' => x = .returned (.bool true) ∧ Below w.heap.size w w' := by
  by_cases hg : greatS s len fs ∨ e = 0
  · exact stops_great s a len cap fs e hs hg w hd h
  · exact stops_play s a len cap fs e hs (fun hx => hg (.inl hx)) (fun hx => hg (.inr hx)) w hd h
end Go.Proofs.YtgeafheoaffooaaDoor
