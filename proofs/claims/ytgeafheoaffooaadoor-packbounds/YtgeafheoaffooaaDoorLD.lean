/- The walk of the law PackBounds. -/
import Derived.Test.YtgeafheoaffooaaDoorL1
import Derived.Test.YtgeafheoaffooaaDoorA10
namespace Go.Proofs.YtgeafheoaffooaaDoor
open Go Go.RowKit
theorem rd_num0 (n : Int) (h : okN n) : rawV (pxN n) 0 0 = n ∧ rawA (pxN n) 0 0 = (pxN n).size ∧ rawE (pxN n) 0 0 = 0 := by
  have := rd_raw ⟨#[]⟩ ⟨#[]⟩ n h
  rw [emp_app, app_empty, show (⟨#[]⟩ : ByteArray).size = 0 from rfl, Nat.zero_add] at this
  unfold pxN
  rw [if_pos h]
  exact this
theorem rd_txt0 (t : ByteArray) (most : Int) (ht : t.size ≤ 1000000) (hb : (t.size : Int) ≤ bd most) : txtV (pxT t) 0 0 most = t ∧ txtA (pxT t) 0 0 most = (pxT t).size ∧ txtE (pxT t) 0 0 most = 0 := by
  have := rd_txt ⟨#[]⟩ ⟨#[]⟩ t most ht hb
  rw [emp_app, app_empty, show (⟨#[]⟩ : ByteArray).size = 0 from rfl, Nat.zero_add] at this
  exact this
theorem rd_txt0_no (t : ByteArray) (most : Int) (ht : t.size ≤ 1000000) (hb : bd most < (t.size : Int)) : txtV (pxT t) 0 0 most = ⟨#[]⟩ ∧ txtE (pxT t) 0 0 most = 1 := by
  have := rd_txt_no ⟨#[]⟩ ⟨#[]⟩ t most ht hb
  rw [emp_app, app_empty, show (⟨#[]⟩ : ByteArray).size = 0 from rfl] at this
  exact this
theorem rst_end (B : ByteArray) : rst B B.size 0 = ⟨#[]⟩ := by rw [rst_live, extract_end B _ (Nat.le_refl _)]
/-- What Number reads of a number's bytes alone. -/
theorem num_yes (n most : Int) (hn : okN n) (hb : n ≤ bd most) (m1 : -9223372036854775808 ≤ most) (m2 : most ≤ 9223372036854775807) (r : Nat) (w : World) (hd : Wd w) (h : Rd w r (rst (pxN n) 0 0) 0) :
    Calls Tryd.prog 11 #[.pointer (some ⟨r, 0, none⟩), .int .i64 most] w fun x w' => x = .returned (.int .i64 n) ∧ Rd w' r ⟨#[]⟩ 0 ∧ w.grownBy w' (some r) := by
  obtain ⟨r1, r2, r3⟩ := rd_num0 n hn
  have hsz := pxN_size n
  obtain ⟨v1, v2⟩ := (num_of (pxN n) 0 most n (Nat.zero_le _) r1 r3).1 hb
  have hx := num_any (pxN n) 0 0 most r (Nat.zero_le _) (by unfold maxLen; omega) m1 m2 w hd h
  rw [v1, v2, r2, rst_end] at hx
  exact hx
theorem num_no (n most : Int) (hn : okN n) (hb : bd most < n) (m1 : -9223372036854775808 ≤ most) (m2 : most ≤ 9223372036854775807) (r : Nat) (w : World) (hd : Wd w) (h : Rd w r (rst (pxN n) 0 0) 0) :
    Calls Tryd.prog 11 #[.pointer (some ⟨r, 0, none⟩), .int .i64 most] w fun x w' => x = .returned (.int .i64 0) ∧ Rd w' r ⟨#[]⟩ 1 ∧ w.grownBy w' (some r) := by
  obtain ⟨r1, r2, r3⟩ := rd_num0 n hn
  have hsz := pxN_size n
  obtain ⟨v1, v2⟩ := (num_of (pxN n) 0 most n (Nat.zero_le _) r1 r3).2 hb
  have hx := num_any (pxN n) 0 0 most r (Nat.zero_le _) (by unfold maxLen; omega) m1 m2 w hd h
  rw [v1, v2, rst_dead _ _ 1 (by decide)] at hx
  exact hx
theorem txt_yes (t : ByteArray) (most : Int) (ht : t.size ≤ 200) (hb : (t.size : Int) ≤ bd most) (m1 : -9223372036854775808 ≤ most) (m2 : most ≤ 9223372036854775807) (r : Nat) (w : World) (hd : Wd w) (h : Rd w r (rst (pxT t) 0 0) 0) :
    Calls Tryd.prog 15 #[.pointer (some ⟨r, 0, none⟩), .int .i64 most] w fun x w' => x = .returned (.string t) ∧ Rd w' r ⟨#[]⟩ 0 ∧ w.grownBy w' (some r) := by
  obtain ⟨v1, v2, v3⟩ := rd_txt0 t most (by omega) hb
  have hsz := pxT_size t (by omega)
  have hx := txt_any (pxT t) 0 0 most r (Nat.zero_le _) (by omega) m1 m2 w hd h
  rw [v1, v2, v3, rst_end] at hx
  exact hx
theorem txt_not (t : ByteArray) (most : Int) (ht : t.size ≤ 200) (hb : bd most < (t.size : Int)) (m1 : -9223372036854775808 ≤ most) (m2 : most ≤ 9223372036854775807) (r : Nat) (w : World) (hd : Wd w) (h : Rd w r (rst (pxT t) 0 0) 0) :
    Calls Tryd.prog 15 #[.pointer (some ⟨r, 0, none⟩), .int .i64 most] w fun x w' => x = .returned (.string ⟨#[]⟩) ∧ Rd w' r ⟨#[]⟩ 1 ∧ w.grownBy w' (some r) := by
  obtain ⟨v1, v2⟩ := rd_txt0_no t most (by omega) hb
  have hsz := pxT_size t (by omega)
  have hx := txt_any (pxT t) 0 0 most r (Nat.zero_le _) (by omega) m1 m2 w hd h
  rw [v1, v2, rst_dead _ _ 1 (by decide)] at hx
  exact hx
theorem Fr.grown {base b : Nat} {w w' : World} (h : Fr base b w w') (hb : base = w.heap.size) : w.grownBy w' (some b) :=
  ⟨h.os, h.tape, h.output, h.size, fun k hk hne => h.low k (by omega) (fun e => hne (by rw [e]))⟩
theorem Wr.kept {w w' : World} {base b c : Nat} {v : Value} {s : ByteArray} {failed : Bool} (h : Wr w base b v s failed) (hg : w.grownBy w' (some c)) (hc : c < base) (hne : b ≠ c) : Wr w' base b v s failed := by
  refine ⟨h.lo, Nat.le_trans h.hi hg.size, (hg.block b (Nat.lt_of_lt_of_le h.lo h.hi) (by simp; exact hne)).trans h.blk, h.own.kept hg ?_⟩
  cases hv : v.ownBlock with
  | none => exact .inl rfl
  | some g =>
    right
    have := (h.own.lt g hv).1
    simp
    omega
theorem wr_two (w : World) : Wr ((w.alloc (.cells #[.slice none 0 0, .bool false] 44)).alloc (.cells #[.slice none 0 0, .bool false] 44)) (w.heap.size + 2) w.heap.size (.slice none 0 0) ⟨#[]⟩ false := by
  refine ⟨by omega, by simp, ?_, World.ownsRow_nil _ _ _ _⟩
  rw [Below.heap_alloc _ _ _ (by simp)]
  exact heap_alloc_new w _
theorem wr_at {w : World} {b : Nat} (h : w.heap[b]? = some (.cells #[.slice none 0 0, .bool false] 44 (0, 0))) : Wr w w.heap.size b (.slice none 0 0) ⟨#[]⟩ false :=
  ⟨(Array.getElem?_eq_some_iff.1 h).1, Nat.le_refl _, h, World.ownsRow_nil _ _ _ _⟩
theorem wr_sec (w : World) : ((w.alloc (.cells #[.slice none 0 0, .bool false] 44)).alloc (.cells #[.slice none 0 0, .bool false] 44)).heap[w.heap.size + 1]? = some (.cells #[.slice none 0 0, .bool false] 44 (0, 0)) := by
  have := heap_alloc_new (w.alloc (.cells #[.slice none 0 0, .bool false] 44)) (.cells #[.slice none 0 0, .bool false] 44)
  rw [show (w.alloc (.cells #[.slice none 0 0, .bool false] 44)).heap.size = w.heap.size + 1 by simp] at this
  exact this
set_option maxHeartbeats 2000000 in
set_option maxRecDepth 100000 in
theorem bounds_out (n most : Int) (s : ByteArray) (ho : n < 0 ∨ 1152921504606846976 < n ∨ 200 < s.size) (w : World) (hd : Wd w) :
    Calls Tryd.prog 7 #[.int .i64 n, .int .i64 most, .string s] w fun x w' => x = .returned (.bool true) ∧ Below w.heap.size w w' := by
  go_enter Tryd.func7, Tryd.ntmps7
  go_wp2_with fail
  refine (awake_yes _ hd).mono ?_
  rintro x w2 ⟨rfl, hb2⟩
  have hd2 := hd.below hb2
  have HB2 := Lib.hid hb2
  clear hb2
  by_cases h1 : n < 0
  · go_wp2_with fail
    refine (awake_yes _ hd2).mono ?_
    rintro x w4 ⟨rfl, hb4⟩
    have HB4 := Lib.hid (HB2.out.trans (hb4.mono HB2.out.size))
    clear hb4
    go_wp2
    go_ret
    exact ⟨rfl, HB4.out⟩
  by_cases h2 : 1152921504606846976 < n
  · go_wp2_with fail
    refine (awake_yes _ hd2).mono ?_
    rintro x w4 ⟨rfl, hb4⟩
    have HB4 := Lib.hid (HB2.out.trans (hb4.mono HB2.out.size))
    clear hb4
    go_wp2
    go_ret
    exact ⟨rfl, HB4.out⟩
  have h3 : 200 < s.size := by omega
  go_wp2_with fail
  refine (awake_yes _ hd2).mono ?_
  rintro x w4 ⟨rfl, hb4⟩
  have HB4 := Lib.hid (HB2.out.trans (hb4.mono HB2.out.size))
  clear hb4
  go_wp2
  go_ret
  exact ⟨rfl, HB4.out⟩
set_option maxHeartbeats 4000000 in
set_option maxRecDepth 100000 in
theorem bounds_in (n most : Int) (s : ByteArray) (h0 : 0 ≤ n) (h1 : n ≤ 1152921504606846976) (hs : s.size ≤ 200) (m1 : -9223372036854775808 ≤ most) (m2 : most ≤ 9223372036854775807) (w : World) (hd : Wd w) :
    Calls Tryd.prog 7 #[.int .i64 n, .int .i64 most, .string s] w fun x w' => x = .returned (.bool true) ∧ Below w.heap.size w w' := by
  have hpos := hd.pos
  have hok : okN n := by unfold okN; omega
  have hpn := pxN_size n
  have hpt := pxT_size s (by omega)
  have PN := Lib.hid (fun W b v (hW : Wd W) base (hR : Wr W base b v ⟨#[]⟩ false) => wnum_any base b v ⟨#[]⟩ false n (by omega) (by omega) (by decide) (fun e => by cases e) W hW hR)
  have PT := Lib.hid (fun W b v (hW : Wd W) base (hR : Wr W base b v ⟨#[]⟩ false) => wtxt_any base b v ⟨#[]⟩ s false (by omega) (by have e : (⟨#[]⟩ : ByteArray).size = 0 := rfl; omega) (fun e => by cases e) W hW hR)
  have EN : Hid (wS ⟨#[]⟩ false (decide (okN n)) (strOfNums (putS n)) = pxN n ∧ (false || !decide (okN n)) = false) := by
    show wS ⟨#[]⟩ false (decide (okN n)) (strOfNums (putS n)) = pxN n ∧ (false || !decide (okN n)) = false
    rw [wS_N, decide_eq_true hok]
    exact ⟨emp_app _, rfl⟩
  have ET : Hid (wS ⟨#[]⟩ false true (strOfNums (putS s.size) ++ s) = pxT s) := emp_app _
  go_enter Tryd.func7, Tryd.ntmps7
  go_wp2_with fail
  refine (awake_yes _ hd).mono ?_
  rintro x w2 ⟨rfl, hb2⟩
  have hd2 := hd.below hb2
  have hH2 := hb2.size
  have HB2 := Lib.hid hb2
  clear hb2 hd
  go_wp2_with fail
  refine (PN.out _ _ _ ((hd2.alloc _).alloc _) _ (wr_two w2)).mono ?_
  rintro x w3 ⟨rfl, ⟨v3, hw3⟩, hf3⟩
  rw [EN.out.1, EN.out.2] at hw3
  have hd3 := ((hd2.alloc _).alloc _).fr hf3 (by omega) (by omega)
  have hsec : w3.heap[w2.heap.size + 1]? = _ := (hf3.low (w2.heap.size + 1) (by omega) (by omega)).trans (wr_sec w2)
  have HB3 := Lib.hid (Fr.below (B := w.heap.size) ((HB2.out.alloc hH2 _).alloc (by simp; omega) _) hf3 (by omega) (by omega))
  have HW3 := Lib.hid hw3
  have HS3 := Lib.hid hsec
  have hH3 : w2.heap.size + 2 ≤ w3.heap.size := hw3.hi
  clear hw3 hf3 hsec HB2 hd2 PN EN
  go_wp2_with fail
  refine (PT.out _ _ _ hd3 _ (wr_at HS3.out)).mono ?_
  rintro x w4 ⟨rfl, ⟨v4, hw4⟩, hf4⟩
  rw [ET.out] at hw4
  have hd4 := hd3.fr hf4 (by omega) (by omega)
  have HB4 := Lib.hid (Fr.below HB3.out hf4 (by omega) (by omega))
  have HWn := Lib.hid (HW3.out.kept (hf4.grown rfl) (by omega) (by omega))
  have HWt := Lib.hid hw4
  clear hw4 hf4 HB3 HW3 HS3 hd3 PT ET
  go_wp2_with fail
  refine (bytes_live _ _ _ _ _ HWn.out).mono ?_
  rintro x w5 ⟨rfl, rfl⟩
  go_wp2_with fail
  refine (bytes_live _ _ _ _ _ HWt.out).mono ?_
  rintro x w5 ⟨rfl, rfl⟩
  clear HWn HWt
  go_wp2_with fail
  refine (read_any (pxN n) (by omega) _).mono ?_
  rintro x w5 ⟨r, hr, rfl, hr5, hb5⟩
  have hd5 := hd4.below hb5
  have HB5 := Lib.hid (HB4.out.trans (hb5.mono HB4.out.size))
  have hrl := hr5.lt
  have hrw : w.heap.size ≤ r := Nat.le_trans HB4.out.size hr
  have HR5 := Lib.hid hr5
  clear hb5 hr5 hd4 HB4 hr
  go_wp2_with fail
  refine (read_any (pxT s) (by omega) _).mono ?_
  rintro x w6 ⟨q, hq, rfl, hq6, hb6⟩
  have hd6 := hd5.below hb6
  have HB6 := Lib.hid (HB5.out.trans (hb6.mono HB5.out.size))
  have HR6 := Lib.hid (HR5.out.kept (row := none) (grown_below hb6) (by simp))
  have HQ6 := Lib.hid hq6
  have hrq : r < q := by omega
  clear hb6 hq6 hd5 HB5 HR5 hrl hq
  have FN := Lib.hid (fun hb => num_yes n most hok hb m1 m2 r _ hd6 HR6.out)
  have FX := Lib.hid (fun hb => num_no n most hok hb m1 m2 r _ hd6 HR6.out)
  have GN := Lib.hid (fun hb W (hW : Wd W) hR => txt_yes s most hs hb m1 m2 q W hW hR)
  have GX := Lib.hid (fun hb W (hW : Wd W) hR => txt_not s most hs hb m1 m2 q W hW hR)
  have hbd := bd_bd most
  have hmm : min (max most 0) 1152921504606846976 = bd most := by unfold bd; split <;> (try split) <;> omega
  clear hok
  generalize pxN n = pn at *
  generalize pxT s = pt at *
  generalize bd most = M at *
  by_cases hn : n ≤ M
  · have F := Lib.hid (FN.out hn)
    have dn : decide (n ≤ M) = true := decide_eq_true hn
    by_cases ht : (s.size : Int) ≤ M
    · have G := Lib.hid (GN.out ht)
      have dt : decide ((s.size : Int) ≤ M) = true := decide_eq_true ht
      clear FN FX GN GX
      go_wp2_with fail
      refine F.out.mono ?_
      rintro x w7 ⟨rfl, hr7, hg7⟩
      have hd7 := hd6.grown hg7 (pos0 (by omega))
      have HB7 := Lib.hid (HB6.out.grown hg7 HB6.out.size (fun k e => by simp at e; omega))
      have HQ7 := Lib.hid (HQ6.out.kept hg7 (by simp; omega))
      have HR7 := Lib.hid hr7
      clear hr7 hg7 F HB6 HQ6 HR6 hd6
      go_wp2_with fail
      refine (G.out _ hd7 HQ7.out).mono ?_
      rintro x w8 ⟨rfl, hq8, hg8⟩
      have HB8 := Lib.hid (HB7.out.grown hg8 HB7.out.size (fun k e => by simp at e; omega))
      have HR8 := Lib.hid (HR7.out.kept hg8 (by simp; omega))
      have HQ8 := Lib.hid hq8
      clear hq8 hg8 G HB7 HQ7 HR7 hd7
      go_wp2_with fail
      refine (end_emp 0 r _ HR8.out).mono ?_
      rintro x w9 ⟨rfl, rfl⟩
      go_wp2_with fail
      refine (err_any r _ 0 _ HR8.out).mono ?_
      rintro x w9 ⟨rfl, rfl⟩
      go_wp2_with fail
      refine (err_any q _ 0 _ HQ8.out).mono ?_
      rintro x w9 ⟨rfl, rfl⟩
      go_wp2_with fail
      refine (err_any q _ 0 _ HQ8.out).mono ?_
      rintro x w9 ⟨rfl, rfl⟩
      go_wp2
      go_ret
      exact ⟨rfl, HB8.out⟩
    · have G := Lib.hid (GX.out (by omega))
      have dt : decide ((s.size : Int) ≤ M) = false := decide_eq_false ht
      clear FN FX GN GX
      go_wp2_with fail
      refine F.out.mono ?_
      rintro x w7 ⟨rfl, hr7, hg7⟩
      have hd7 := hd6.grown hg7 (pos0 (by omega))
      have HB7 := Lib.hid (HB6.out.grown hg7 HB6.out.size (fun k e => by simp at e; omega))
      have HQ7 := Lib.hid (HQ6.out.kept hg7 (by simp; omega))
      have HR7 := Lib.hid hr7
      clear hr7 hg7 F HB6 HQ6 HR6 hd6
      go_wp2_with fail
      refine (G.out _ hd7 HQ7.out).mono ?_
      rintro x w8 ⟨rfl, hq8, hg8⟩
      have HB8 := Lib.hid (HB7.out.grown hg8 HB7.out.size (fun k e => by simp at e; omega))
      have HR8 := Lib.hid (HR7.out.kept hg8 (by simp; omega))
      have HQ8 := Lib.hid hq8
      clear hq8 hg8 G HB7 HQ7 HR7 hd7
      go_wp2_with fail
      refine (end_emp 0 r _ HR8.out).mono ?_
      rintro x w9 ⟨rfl, rfl⟩
      go_wp2_with fail
      refine (err_any r _ 0 _ HR8.out).mono ?_
      rintro x w9 ⟨rfl, rfl⟩
      go_wp2_with fail
      refine (err_any q _ 1 _ HQ8.out).mono ?_
      rintro x w9 ⟨rfl, rfl⟩
      go_wp2_with fail
      refine (err_any q _ 1 _ HQ8.out).mono ?_
      rintro x w9 ⟨rfl, rfl⟩
      go_wp2
      go_ret
      exact ⟨rfl, HB8.out⟩
  · have F := Lib.hid (FX.out (by omega))
    have dn : decide (n ≤ M) = false := decide_eq_false hn
    have hnz : (0 == n) = false := by rw [beq_eq_false_iff_ne]; omega
    by_cases ht : (s.size : Int) ≤ M
    · have G := Lib.hid (GN.out ht)
      have dt : decide ((s.size : Int) ≤ M) = true := decide_eq_true ht
      clear FN FX GN GX
      go_wp2_with fail
      refine F.out.mono ?_
      rintro x w7 ⟨rfl, hr7, hg7⟩
      have hd7 := hd6.grown hg7 (pos0 (by omega))
      have HB7 := Lib.hid (HB6.out.grown hg7 HB6.out.size (fun k e => by simp at e; omega))
      have HQ7 := Lib.hid (HQ6.out.kept hg7 (by simp; omega))
      have HR7 := Lib.hid hr7
      clear hr7 hg7 F HB6 HQ6 HR6 hd6
      go_wp2_with fail
      refine (G.out _ hd7 HQ7.out).mono ?_
      rintro x w8 ⟨rfl, hq8, hg8⟩
      have HB8 := Lib.hid (HB7.out.grown hg8 HB7.out.size (fun k e => by simp at e; omega))
      have HR8 := Lib.hid (HR7.out.kept hg8 (by simp; omega))
      have HQ8 := Lib.hid hq8
      clear hq8 hg8 G HB7 HQ7 HR7 hd7
      go_wp2_with fail
      refine (err_any r _ 1 _ HR8.out).mono ?_
      rintro x w9 ⟨rfl, rfl⟩
      go_wp2_with fail
      refine (err_any r _ 1 _ HR8.out).mono ?_
      rintro x w9 ⟨rfl, rfl⟩
      go_wp2_with fail
      refine (err_any q _ 0 _ HQ8.out).mono ?_
      rintro x w9 ⟨rfl, rfl⟩
      go_wp2_with fail
      refine (err_any q _ 0 _ HQ8.out).mono ?_
      rintro x w9 ⟨rfl, rfl⟩
      go_wp2
      go_ret
      exact ⟨rfl, HB8.out⟩
    · have G := Lib.hid (GX.out (by omega))
      have dt : decide ((s.size : Int) ≤ M) = false := decide_eq_false ht
      clear FN FX GN GX
      go_wp2_with fail
      refine F.out.mono ?_
      rintro x w7 ⟨rfl, hr7, hg7⟩
      have hd7 := hd6.grown hg7 (pos0 (by omega))
      have HB7 := Lib.hid (HB6.out.grown hg7 HB6.out.size (fun k e => by simp at e; omega))
      have HQ7 := Lib.hid (HQ6.out.kept hg7 (by simp; omega))
      have HR7 := Lib.hid hr7
      clear hr7 hg7 F HB6 HQ6 HR6 hd6
      go_wp2_with fail
      refine (G.out _ hd7 HQ7.out).mono ?_
      rintro x w8 ⟨rfl, hq8, hg8⟩
      have HB8 := Lib.hid (HB7.out.grown hg8 HB7.out.size (fun k e => by simp at e; omega))
      have HR8 := Lib.hid (HR7.out.kept hg8 (by simp; omega))
      have HQ8 := Lib.hid hq8
      clear hq8 hg8 G HB7 HQ7 HR7 hd7
      go_wp2_with fail
      refine (err_any r _ 1 _ HR8.out).mono ?_
      rintro x w9 ⟨rfl, rfl⟩
      go_wp2_with fail
      refine (err_any r _ 1 _ HR8.out).mono ?_
      rintro x w9 ⟨rfl, rfl⟩
      go_wp2_with fail
      refine (err_any q _ 1 _ HQ8.out).mono ?_
      rintro x w9 ⟨rfl, rfl⟩
      go_wp2_with fail
      refine (err_any q _ 1 _ HQ8.out).mono ?_
      rintro x w9 ⟨rfl, rfl⟩
      go_wp2
      go_ret
      exact ⟨rfl, HB8.out⟩
theorem walkBounds (n most : Int) (s : ByteArray) (hn : -9223372036854775808 ≤ n ∧ n ≤ 9223372036854775807) (hm : -9223372036854775808 ≤ most ∧ most ≤ 9223372036854775807) (w : World) (hd : Wd w) :
    Calls Tryd.prog 7 #[.int .i64 n, .int .i64 most, .string s] w fun x w' => x = .returned (.bool true) ∧ Below w.heap.size w w' := by
  by_cases ho : n < 0 ∨ 1152921504606846976 < n ∨ 200 < s.size
  · exact bounds_out n most s ho w hd
  · exact bounds_in n most s (by omega) (by omega) (by omega) hm.1 hm.2 w hd
end Go.Proofs.YtgeafheoaffooaaDoor
