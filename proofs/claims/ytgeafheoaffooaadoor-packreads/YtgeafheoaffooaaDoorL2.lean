/- The walk of the law PackReads. -/
import Derived.Test.YtgeafheoaffooaaDoorL1
import Derived.Deep.RegionWith
import Derived.Deep.RegionHeld3
namespace Go.Proofs.YtgeafheoaffooaaDoor
open Go Go.RowKit
theorem err_q (b : Nat) (rest : ByteArray) (err : Int) (w : World) (h : Rd w b rest err) : Calls Tryd.prog 21 #[.pointer (some ⟨b, 0, none⟩)] w fun x w' => x = .returned (.int .i64 err) ∧ w' = w :=
  (err_any b rest err w h).mono fun _ _ hx => ⟨hx.1, hx.2.symm⟩
theorem Rm.alloc {w : World} {b : Nat} {B : ByteArray} {At : Nat} {E : Int} (h : Rm w b B At E) (o : Obj) : Rm (w.alloc o) b B At E := (Below.heap_alloc w o b h.lt).trans h
theorem rm_new (w : World) (s : ByteArray) : Rm (w.alloc (.cells #[.string s, .int .i64 0, .int .i64 0] 27)) w.heap.size s 0 0 := heap_alloc_new w _
theorem Wd.drew {w : World} (h : Wd w) : Wd w.drew := ⟨h.c0, h.c1, h.c2, h.c3, h.pos⟩
theorem Rd.drew {w : World} {b : Nat} {rest : ByteArray} {err : Int} (h : Rd w b rest err) : Rd w.drew b rest err := h
theorem Rm.drew {w : World} {b : Nat} {B : ByteArray} {At : Nat} {E : Int} (h : Rm w b B At E) : Rm w.drew b B At E := h
theorem fcell1 (w : World) (k n : Int) (t : ByteArray) (T : TypeId) : (w.alloc (.cells #[.int .i64 k, .int .i64 n, .string t] T)).drew.cell? ⟨w.heap.size, 1, none⟩ = some (.int .i64 n) := by
  have h : (w.alloc (.cells #[.int .i64 k, .int .i64 n, .string t] T)).drew.heap[w.heap.size]? = some (.cells #[.int .i64 k, .int .i64 n, .string t] T (0, 0)) := heap_alloc_new w _
  unfold World.cell?
  rw [h]
  rfl
theorem below_drewN {B : Nat} {a w : World} (h : Below B a w) (n : Nat) : Below B a (w.drewN n) := ⟨h.os, h.tape, h.output, h.size, h.block⟩
theorem fcell1' (w : World) (k n : Int) (t : ByteArray) (T : TypeId) : (w.alloc (.cells #[.int .i64 k, .int .i64 n, .string t] T)).cell? ⟨w.heap.size, 1, none⟩ = some (.int .i64 n) := fcell1 w k n t T
/-- Both readers behind a read of both. -/
structure Two (w wr : World) (r m : Nat) (s : ByteArray) (At : Nat) (E : Int) : Prop where
  rd : Rd wr r (rst s At E) E
  rm : Rm wr m s At E
  bel : Below w.heap.size w wr
theorem Two.alloc {w wr : World} {r m : Nat} {s : ByteArray} {At : Nat} {E : Int} (h : Two w wr r m s At E) (o : Obj) : Two w (wr.alloc o) r m s At E := ⟨h.rd.alloc o, h.rm.alloc o, h.bel.alloc h.bel.size o⟩
set_option maxHeartbeats 2000000 in
set_option maxRecDepth 100000 in
theorem reads_great (s : ByteArray) (a : Option Addr) (len cap : Nat) (fs : List Fd) (hs : s.size ≤ 140737488355328) (hg : greatS s len fs) (w : World) (hd : Wd w) (h : IsFs w a len fs) :
    Calls Tryd.prog 3 #[.string s, .slice a len cap] w fun x w' => x = .returned (.bool true) ∧ Below w.heap.size w w' := by
  have H := Lib.hid h
  clear h
  go_enter Tryd.func3, Tryd.ntmps3
  go_wp2_with fail
  refine (read_any s hs _).mono ?_
  rintro x w1 ⟨r, hr, rfl, hr1, hb1⟩
  have hd1 := hd.below hb1
  have HB1 := Lib.hid hb1
  have hH1 := hb1.size
  clear hb1 hr1
  go_wp2_with fail
  refine (awake_yes _ (hd1.alloc _)).mono ?_
  rintro x w2 ⟨rfl, hb2⟩
  have hd2 := (hd1.alloc _).below hb2
  have HB2 := Lib.hid ((HB1.out.alloc hH1 _).trans (hb2.mono (HB1.out.alloc hH1 _).size))
  clear hb2 HB1 hd1
  have HF : Hid (IsFs w2 a len fs) := isFs_below H.out HB2.out
  go_wp2_with fail
  refine (great_yes s a len cap fs hg _ HF.out).mono ?_
  rintro x w3 ⟨rfl, hb3⟩
  have hd3 := hd2.below hb3
  have HB3 := Lib.hid (HB2.out.trans (hb3.mono HB2.out.size))
  clear hb3 HB2 hd2 hg
  go_wp2_with fail
  refine (awake_yes _ hd3).mono ?_
  rintro x w4 ⟨rfl, hb4⟩
  have HB4 := Lib.hid (HB3.out.trans (hb4.mono HB3.out.size))
  clear hb4
  go_wp2
  go_ret
  exact ⟨rfl, HB4.out⟩
set_option maxHeartbeats 4000000 in
set_option maxRecDepth 100000 in
theorem reads_play (s : ByteArray) (a : Option Addr) (len cap : Nat) (fs : List Fd) (hs : s.size ≤ 140737488355328) (hg : ¬ greatS s len fs) (w : World) (hd : Wd w) (h : IsFs w a len fs) :
    Calls Tryd.prog 3 #[.string s, .slice a len cap] w fun x w' => x = .returned (.bool true) ∧ Below w.heap.size w w' := by
  have H := Lib.hid h
  have hpos := hd.pos
  have hl : len ≤ 200 := Nat.le_of_not_lt fun hx => hg (.inr (.inl hx))
  have hm' : s.size ≤ maxLen := by unfold maxLen; omega
  clear h
  go_enter Tryd.func3, Tryd.ntmps3
  go_wp2_with fail
  refine (read_any s hs _).mono ?_
  rintro x w1 ⟨r, hr, rfl, hr1, hb1⟩
  have hd1 := hd.below hb1
  have HB1 := Lib.hid hb1
  have hH1 := hb1.size
  have hrlt := hr1.lt
  have HR1 := Lib.hid hr1
  clear hb1 hr1
  go_wp2_with fail
  refine (awake_yes _ (hd1.alloc _)).mono ?_
  rintro x w2 ⟨rfl, hb2⟩
  have hd2 := (hd1.alloc _).below hb2
  have HB2 := Lib.hid ((HB1.out.alloc hH1 _).trans (hb2.mono (HB1.out.alloc hH1 _).size))
  have HR2 := Lib.hid ((HR1.out.alloc _).kept (row := none) (grown_below hb2) (by simp))
  have HM2 := Lib.hid ((rm_new w1 s).kept (row := none) (grown_below hb2) (by simp))
  clear hb2 HB1 hd1 HR1
  have HF : Hid (IsFs w2 a len fs) := isFs_below H.out HB2.out
  go_wp2_with fail
  refine (great_no s a len cap fs hg _ HF.out).mono ?_
  rintro x w3 ⟨rfl, hb3⟩
  have HT3 : Hid (Two w w3 r w1.heap.size s 0 0) := ⟨HR2.out.kept (row := none) (grown_below hb3) (by simp), HM2.out.kept (row := none) (grown_below hb3) (by simp), HB2.out.trans (hb3.mono HB2.out.size)⟩
  clear hb3 HB2 hd2 hg HR2 HF HM2
  have HD := Lib.hid hd
  have hmw : w.heap.size ≤ w1.heap.size := hH1
  have hmr : r < w1.heap.size := hrlt
  clear hd hH1 hrlt
  generalize w1.heap.size = m at *
  go_wp2_with fail
  go_loopw [29] (fun v29 wr => ∃ (k At : Nat) (E : Int), k ≤ len ∧ At ≤ s.size ∧ v29 = .int .i64 k ∧ Two w wr r m s At E) (fun v29 _ => len - (intOf v29).toNat)
  case atStart => exact ⟨0, 0, 0, Nat.zero_le _, Nat.zero_le _, rfl, HT3.out⟩
  case round =>
    obtain ⟨k, At, E, hk, hAt, rfl, htwo⟩ := hrel
    clear HT3
    have HT := Lib.hid htwo
    have hdr := HD.out.below htwo.bel
    have hH : w.heap.size ≤ wr.heap.size := htwo.bel.size
    have hrl : r < wr.heap.size := htwo.rd.lt
    have hml : m < wr.heap.size := htwo.rm.lt
    clear htwo
    by_cases hlt : k < len
    · obtain ⟨b, off, rfl, hf⟩ := H.out.lies (by omega)
      have hfl := H.out.size
      have hb := hf.lt (by omega)
      have n1 := H.out.nlo k hlt
      have n2 := H.out.nhi k hlt
      have ck : wr.cell? ⟨b, off + k * 3, none⟩ = some (.int .i64 (fs.getD k fd0).1) := (HT.out.bel.cell hb).trans (hf.k k (by omega))
      have cn : wr.cell? ⟨b, off + k * 3 + 1, none⟩ = some (.int .i64 (fs.getD k fd0).2.1) := (HT.out.bel.cell hb).trans (hf.n k (by omega))
      have ct : wr.cell? ⟨b, off + k * 3 + 2, none⟩ = some (.string (fs.getD k fd0).2.2) := (HT.out.bel.cell hb).trans (hf.t k (by omega))
      clear hf hfl hb
      generalize (fs.getD k fd0).2.2 = t at *
      generalize (fs.getD k fd0).2.1 = n at *
      generalize (fs.getD k fd0).1 = kd at *
      by_cases h1 : kd = 1
      · subst h1
        have P11 := Lib.hid (fun W (hW : Wd W) (hR : Rd W r (rst s At E) E) => num_any s At E n r hAt hm' n1 n2 W hW hR)
        have P12 := Lib.hid (fun W (hR : Rm W m s At E) => rnum_any s At E n m hAt hm' n1 n2 W hR)
        have hA' := rawA_le s At E hAt
        generalize numV s At E n = V at *
        generalize numE s At E n = E' at *
        generalize rawA s At E = A' at *
        go_wp2_with fail
        go_region_with (first
          | (go_at_call 11; refine (P11.out _ (hdr.alloc _).drew (HT.out.rd.alloc _).drew).mono ?_; rintro x w5 ⟨rfl, hr5, hg5⟩; have c5 : w5.cell? ⟨wr.heap.size, 1, none⟩ = some (.int .i64 n) := hg5.cell (fcell1 wr _ n t _) (by simp; omega); have hm5 : Rm w5 m s At E := (HT.out.rm.alloc _).drew.kept hg5 (by simp; omega); have HR5 := Lib.hid hr5; have HM5 := Lib.hid hm5; have HG5 := Lib.hid hg5; clear hr5 hm5 hg5)
          | (go_at_call 12; refine (P12.out _ HM5.out).mono ?_; rintro x w6 ⟨rfl, hr6, hg6⟩; have HR6 := Lib.hid (HR5.out.kept hg6 (by simp; omega)); have HM6 := Lib.hid hr6; have HG6 := Lib.hid hg6; clear hr6 hg6))
        all_goals (
          have HB6 : Hid (Below w.heap.size w w6) := ((((HT.out.bel.alloc hH _).drew).grown HG5.out (by simp; omega) (fun k e => by simp at e; omega)).grown HG6.out (Nat.le_trans (by simp; omega) HG5.out.size) (fun k e => by simp at e; omega))
          have c2 := HM6.out.c2
          clear c5 HG5 HG6 HR5 HM5 ck cn ct
          go_wp2_with fail
          go_quiet ((go_at_call 21; exact Calls.quiet_of_same (err_q r _ E' _ HR6.out)))
          go_wp2
          go_roundw
          case rel => exact ⟨k + 1, A', E', by omega, hA', by go_num, HR6.out, HM6.out, below_drewN HB6.out _⟩
          case measure => simp [intOf]; omega)
      have k1 : (kd == 1) = false := by rw [beq_eq_false_iff_ne]; exact h1
      by_cases h2 : kd = 2
      · subst h2
        have P11 := Lib.hid (fun W (hW : Wd W) (hR : Rd W r (rst s At E) E) => sgn_any s At E r (by omega) hAt hm' W hW hR)
        have P12 := Lib.hid (fun W (hR : Rm W m s At E) => rsgn_any s At E m hAt hm' W hR)
        have hA' := rawA_le s At E hAt
        generalize sgnV s At E = V at *
        generalize rawE s At E = E' at *
        generalize rawA s At E = A' at *
        clear k1 h1
        go_wp2_with fail
        refine (P11.out _ (hdr.alloc _) (HT.out.rd.alloc _)).mono ?_
        rintro x w5 ⟨rfl, hr5, hg5⟩
        have hm5 : Rm w5 m s At E := (HT.out.rm.alloc _).kept hg5 (by simp; omega)
        have HR5 := Lib.hid hr5
        have HM5 := Lib.hid hm5
        have HG5 := Lib.hid hg5
        clear hr5 hm5 hg5
        go_wp2_with fail
        refine (P12.out _ HM5.out).mono ?_
        rintro x w6 ⟨rfl, hr6, hg6⟩
        have HR6 := Lib.hid (HR5.out.kept hg6 (by simp; omega))
        have HM6 := Lib.hid hr6
        have HB6 : Hid (Below w.heap.size w w6) := ((HT.out.bel.alloc hH _).grown HG5.out (by simp; omega) (fun k e => by simp at e; omega)).grown hg6 (Nat.le_trans (by simp; omega) HG5.out.size) (fun k e => by simp at e; omega)
        have c2 := HM6.out.c2
        clear hr6 hg6 HG5 HR5 HM5 ck cn ct
        go_wp2_with fail
        go_quiet ((go_at_call 21; exact Calls.quiet_of_same (err_q r _ E' _ HR6.out)))
        go_wp2
        go_roundw
        case rel => exact ⟨k + 1, A', E', by omega, hA', by go_num, HR6.out, HM6.out, below_drewN HB6.out _⟩
        case measure => simp [intOf]; omega
      have k2 : (kd == 2) = false := by rw [beq_eq_false_iff_ne]; exact h2
      by_cases h3 : kd = 3
      · subst h3
        have P11 := Lib.hid (fun W (hW : Wd W) (hR : Rd W r (rst s At E) E) => txt_any s At E n r hAt hs n1 n2 W hW hR)
        have P12 := Lib.hid (fun W (hR : Rm W m s At E) => rtxt_any s At E n m hAt hm' n1 n2 W hR)
        have hA' := txtA_le s At E n hAt
        generalize txtV s At E n = V at *
        generalize txtE s At E n = E' at *
        generalize txtA s At E n = A' at *
        clear k1 h1 k2 h2
        go_wp2_with fail
        go_region_with (first
          | (go_at_call 15; refine (P11.out _ (hdr.alloc _).drew (HT.out.rd.alloc _).drew).mono ?_; rintro x w5 ⟨rfl, hr5, hg5⟩; have c5 : w5.cell? ⟨wr.heap.size, 1, none⟩ = some (.int .i64 n) := hg5.cell (fcell1 wr _ n t _) (by simp; omega); have hm5 : Rm w5 m s At E := (HT.out.rm.alloc _).drew.kept hg5 (by simp; omega); have HR5 := Lib.hid hr5; have HM5 := Lib.hid hm5; have HG5 := Lib.hid hg5; clear hr5 hm5 hg5)
          | (go_at_call 16; refine (P12.out _ HM5.out).mono ?_; rintro x w6 ⟨rfl, hr6, hg6⟩; have HR6 := Lib.hid (HR5.out.kept hg6 (by simp; omega)); have HM6 := Lib.hid hr6; have HG6 := Lib.hid hg6; clear hr6 hg6))
        all_goals (
          have HB6 : Hid (Below w.heap.size w w6) := ((((HT.out.bel.alloc hH _).drew).grown HG5.out (by simp; omega) (fun k e => by simp at e; omega)).grown HG6.out (Nat.le_trans (by simp; omega) HG5.out.size) (fun k e => by simp at e; omega))
          have c2 := HM6.out.c2
          clear c5 HG5 HG6 HR5 HM5 ck cn ct
          go_wp2_with fail
          go_quiet ((go_at_call 21; exact Calls.quiet_of_same (err_q r _ E' _ HR6.out)))
          go_wp2
          go_roundw
          case rel => exact ⟨k + 1, A', E', by omega, hA', by go_num, HR6.out, HM6.out, below_drewN HB6.out _⟩
          case measure => simp [intOf]; omega)
      have k3 : (kd == 3) = false := by rw [beq_eq_false_iff_ne]; exact h3
      by_cases h4 : kd = 4
      · subst h4
        have P11 := Lib.hid (fun W (hR : Rd W r (rst s At E) E) => fail_any s At E n r W hR)
        have P12 := Lib.hid (fun W (hR : Rm W m s At E) => rfail_any s At E n m W hR)
        generalize hA0 : At = A' at *
        have hA' := hAt
        generalize failE E n = E' at *
        clear k1 h1 k2 h2 k3 h3 hA0
        go_wp2_with fail
        refine (P11.out _ (HT.out.rd.alloc _)).mono ?_
        rintro x w5 ⟨rfl, hr5, hg5⟩
        have hm5 : Rm w5 m s A' E := (HT.out.rm.alloc _).kept hg5 (by simp; omega)
        have c5 : w5.cell? ⟨wr.heap.size, 1, none⟩ = some (.int .i64 n) := hg5.cell (fcell1' wr _ n t _) (by simp; omega)
        have HR5 := Lib.hid hr5
        have HM5 := Lib.hid hm5
        have HG5 := Lib.hid hg5
        clear hr5 hm5 hg5
        go_wp2_with fail
        refine (P12.out _ HM5.out).mono ?_
        rintro x w6 ⟨rfl, hr6, hg6⟩
        have HR6 := Lib.hid (HR5.out.kept hg6 (by simp; omega))
        have HM6 := Lib.hid hr6
        have HB6 : Hid (Below w.heap.size w w6) := ((HT.out.bel.alloc hH _).grown HG5.out (by simp; omega) (fun k e => by simp at e; omega)).grown hg6 (Nat.le_trans (by simp; omega) HG5.out.size) (fun k e => by simp at e; omega)
        have c2 := HM6.out.c2
        clear hr6 hg6 HG5 HR5 HM5 ck cn ct c5
        go_wp2_with fail
        go_quiet ((go_at_call 21; exact Calls.quiet_of_same (err_q r _ E' _ HR6.out)))
        go_wp2
        go_roundw
        case rel => exact ⟨k + 1, A', E', by omega, hA', by go_num, HR6.out, HM6.out, below_drewN HB6.out _⟩
        case measure => simp [intOf]; omega
      have k4 : (kd == 4) = false := by rw [beq_eq_false_iff_ne]; exact h4
      by_cases h5 : kd = 5
      · subst h5
        have P11 := Lib.hid (fun W (hR : Rd W r (rst s At E) E) => end_any s At E r W hR)
        have P12 := Lib.hid (fun W (hR : Rm W m s At E) => rend_any s At E m W hR)
        generalize hE0 : endE s At E = E' at *
        generalize hA0 : At = A' at *
        have hA' := hAt
        clear k1 h1 k2 h2 k3 h3 k4 h4 hA0 hE0
        go_wp2_with fail
        refine (P11.out _ (HT.out.rd.alloc _)).mono ?_
        rintro x w5 ⟨rfl, hr5, hg5⟩
        have hm5 : Rm w5 m s A' E := (HT.out.rm.alloc _).kept hg5 (by simp; omega)
        have HR5 := Lib.hid hr5
        have HM5 := Lib.hid hm5
        have HG5 := Lib.hid hg5
        clear hr5 hm5 hg5
        go_wp2_with fail
        refine (P12.out _ HM5.out).mono ?_
        rintro x w6 ⟨rfl, hr6, hg6⟩
        have HR6 := Lib.hid (HR5.out.kept hg6 (by simp; omega))
        have HM6 := Lib.hid hr6
        have HB6 : Hid (Below w.heap.size w w6) := ((HT.out.bel.alloc hH _).grown HG5.out (by simp; omega) (fun k e => by simp at e; omega)).grown hg6 (Nat.le_trans (by simp; omega) HG5.out.size) (fun k e => by simp at e; omega)
        have c2 := HM6.out.c2
        clear hr6 hg6 HG5 HR5 HM5 ck cn ct
        go_wp2_with fail
        go_quiet ((go_at_call 21; exact Calls.quiet_of_same (err_q r _ E' _ HR6.out)))
        go_wp2
        go_roundw
        case rel => exact ⟨k + 1, A', E', by omega, hA', by go_num, HR6.out, HM6.out, below_drewN HB6.out _⟩
        case measure => simp [intOf]; omega
      have k5 : (kd == 5) = false := by rw [beq_eq_false_iff_ne]; exact h5
      clear h1 h2 h3 h4 h5
      have HR6 := Lib.hid (HT.out.rd.alloc (.cells #[.int .i64 kd, .int .i64 n, .string t] 31))
      have HM6 := Lib.hid (HT.out.rm.alloc (.cells #[.int .i64 kd, .int .i64 n, .string t] 31))
      have HB6 := Lib.hid (HT.out.bel.alloc hH (.cells #[.int .i64 kd, .int .i64 n, .string t] 31))
      have c2 := HM6.out.c2
      go_wp2_with fail
      go_quiet ((go_at_call 21; exact Calls.quiet_of_same (err_q r _ E _ HR6.out)))
      go_wp2
      go_roundw
      case rel => exact ⟨k + 1, At, E, by omega, hAt, by go_num, HR6.out, HM6.out, below_drewN HB6.out _⟩
      case measure => simp [intOf]; omega
    · obtain rfl : k = len := by omega
      go_wp2
      go_ret
      exact ⟨rfl, HT.out.bel⟩
theorem walkReads (s : ByteArray) (a : Option Addr) (len cap : Nat) (fs : List Fd) (hs : s.size ≤ 140737488355328) (w : World) (hd : Wd w) (h : IsFs w a len fs) :
    Calls Tryd.prog 3 #[.string s, .slice a len cap] w fun x w' => x = .returned (.bool true) ∧ Below w.heap.size w w' := by
  by_cases hg : greatS s len fs
  · exact reads_great s a len cap fs hs hg w hd h
  · exact reads_play s a len cap fs hs hg w hd h
end Go.Proofs.YtgeafheoaffooaaDoor
