/- The walk of the law PackWrites. -/
import Derived.Test.YtgeafheoaffooaaDoorL1
namespace Go.Proofs.YtgeafheoaffooaaDoor
open Go Go.RowKit
theorem fr_block {base b : Nat} {w w' : World} {k n : Int} {t : ByteArray} (h : Fr base b (w.alloc (.cells #[.int .i64 k, .int .i64 n, .string t] 31)) w') (hb : b < w.heap.size) : w'.heap[w.heap.size]? = some (.cells #[.int .i64 k, .int .i64 n, .string t] 31 (0, 0)) :=
  (h.typ w.heap.size _ _ _ (heap_alloc_new w _) (by decide) (by omega)).trans (heap_alloc_new w _)
theorem fr_cell1 {base b : Nat} {w w' : World} {k n : Int} {t : ByteArray} (h : Fr base b (w.alloc (.cells #[.int .i64 k, .int .i64 n, .string t] 31)) w') (hb : b < w.heap.size) : w'.cell? ⟨w.heap.size, 1, none⟩ = some (.int .i64 n) := by
  have := fr_block h hb
  unfold World.cell?
  rw [this]
  rfl
theorem fr_cell2 {base b : Nat} {w w' : World} {k n : Int} {t : ByteArray} (h : Fr base b (w.alloc (.cells #[.int .i64 k, .int .i64 n, .string t] 31)) w') (hb : b < w.heap.size) : w'.cell? ⟨w.heap.size, 2, none⟩ = some (.string t) := by
  have := fr_block h hb
  unfold World.cell?
  rw [this]
  rfl
theorem Wr.alloc {w : World} {base b : Nat} {v : Value} {s : ByteArray} {failed : Bool} (h : Wr w base b v s failed) (o : Obj) : Wr (w.alloc o) base b v s failed := h.below ((Below.refl _ _).alloc (Nat.le_refl _) _)
theorem app_emp (s : ByteArray) : s ++ (⟨#[]⟩ : ByteArray) = s := by
  apply ByteArray.ext
  simp
set_option maxHeartbeats 2000000 in
set_option maxRecDepth 100000 in
theorem writes_great (a : Option Addr) (len cap : Nat) (fs : List Fd) (hg : greatS ⟨#[]⟩ len fs) (w : World) (hd : Wd w) (h : IsFs w a len fs) :
    Calls Tryd.prog 4 #[.slice a len cap] w fun x w' => x = .returned (.bool true) ∧ Below w.heap.size w w' := by
  have H := Lib.hid h
  clear h
  go_enter Tryd.func4, Tryd.ntmps4
  go_wp2_with fail
  refine (awake_yes _ hd).mono ?_
  rintro x w2 ⟨rfl, hb2⟩
  have hd2 := hd.below hb2
  have HB2 := Lib.hid hb2
  clear hb2
  have HF : Hid (IsFs w2 a len fs) := isFs_below H.out HB2.out
  go_wp2_with fail
  refine (great_yes _ a len cap fs hg _ HF.out).mono ?_
  rintro x w3 ⟨rfl, hb3⟩
  have hd3 := hd2.below hb3
  have HB3 := Lib.hid (HB2.out.trans (hb3.mono HB2.out.size))
  clear hb3 HB2 hd2 hg
  go_wp2_with fail
  refine (awake_yes _ hd3).mono ?_
  rintro x w4 ⟨rfl, hb4⟩
  have HB4 := Lib.hid (HB3.out.trans (hb4.mono HB3.out.size))
  clear hb4
  go_wp2
  go_ret
  exact ⟨rfl, HB4.out⟩
set_option maxHeartbeats 4000000 in
set_option maxRecDepth 100000 in
theorem writes_play (a : Option Addr) (len cap : Nat) (fs : List Fd) (hg : ¬ greatS ⟨#[]⟩ len fs) (w : World) (hd : Wd w) (h : IsFs w a len fs) :
    Calls Tryd.prog 4 #[.slice a len cap] w fun x w' => x = .returned (.bool true) ∧ Below w.heap.size w w' := by
  have H := Lib.hid h
  have hpos := hd.pos
  have hl : len ≤ 200 := Nat.le_of_not_lt fun hx => hg (.inr (.inl hx))
  have HTX : Hid (∀ i, i < len → (fs.getD i fd0).2.2.size ≤ 200) := fun i hi => Nat.le_of_not_lt fun hx => hg (.inr (.inr ⟨i, hi, hx⟩))
  clear h
  go_enter Tryd.func4, Tryd.ntmps4
  go_wp2_with fail
  refine (awake_yes _ hd).mono ?_
  rintro x w2 ⟨rfl, hb2⟩
  have HB2 := Lib.hid hb2
  clear hb2
  have HF : Hid (IsFs w2 a len fs) := isFs_below H.out HB2.out
  go_wp2_with fail
  refine (great_no _ a len cap fs hg _ HF.out).mono ?_
  rintro x w3 ⟨rfl, hb3⟩
  have hb3' := HB2.out.trans (hb3.mono HB2.out.size)
  have hH3 := hb3'.size
  have HB3 := Lib.hid (hb3'.alloc hH3 (.cells #[.slice none 0 0, .bool false] 44))
  have HW3 := Lib.hid (wr_new w3)
  clear hb3 HB2 hg HF hb3'
  have HD := Lib.hid hd
  clear hd
  go_wp2_with fail
  generalize w3.heap.size = B at *
  go_loopw [4, 5, 21] (fun v4 v5 v21 wr => ∃ (k : Nat) (failed : Bool) (s want : ByteArray) (v : Value), k ≤ len ∧ v21 = .int .i64 k ∧ v4 = .string want ∧ v5 = .bool (!failed) ∧ Wr wr (B + 1) B v s failed ∧ (failed = true → s = ⟨#[]⟩) ∧ (failed = false → s = want) ∧ want.size ≤ 300 * k ∧ Below w.heap.size w wr) (fun _ _ v21 _ => len - (intOf v21).toNat)
  case atStart => exact ⟨0, false, ⟨#[]⟩, ⟨#[]⟩, _, Nat.zero_le _, rfl, rfl, rfl, HW3.out, fun _ => rfl, fun _ => rfl, Nat.zero_le _, HB3.out⟩
  case round =>
    obtain ⟨k, failed, s, want, v, hk, rfl, rfl, rfl, hwr, hs1, hs2, hsz, hbel⟩ := hrel
    clear HB3 HW3
    have HBEL := Lib.hid hbel
    have HWR := Lib.hid hwr
    have hdr := HD.out.below hbel
    have hH : w.heap.size ≤ wr.heap.size := hbel.size
    have hBl : B < wr.heap.size := Nat.lt_of_lt_of_le hwr.lo hwr.hi
    have hwsz : s.size ≤ 300 * k := by
      cases failed with
      | true => rw [hs1 rfl]; exact Nat.zero_le _
      | false => rw [hs2 rfl]; exact hsz
    clear hbel hwr
    by_cases hlt : k < len
    · obtain ⟨b, off, rfl, hf⟩ := H.out.lies (by omega)
      have hfl := H.out.size
      have hb := hf.lt (by omega)
      have n1 := H.out.nlo k hlt
      have n2 := H.out.nhi k hlt
      have ck : wr.cell? ⟨b, off + k * 3, none⟩ = some (.int .i64 (fs.getD k fd0).1) := (HBEL.out.cell hb).trans (hf.k k (by omega))
      have cn : wr.cell? ⟨b, off + k * 3 + 1, none⟩ = some (.int .i64 (fs.getD k fd0).2.1) := (HBEL.out.cell hb).trans (hf.n k (by omega))
      have ct : wr.cell? ⟨b, off + k * 3 + 2, none⟩ = some (.string (fs.getD k fd0).2.2) := (HBEL.out.cell hb).trans (hf.t k (by omega))
      have htx := HTX.out k hlt
      clear hf hfl hb
      generalize (fs.getD k fd0).2.2 = t at *
      generalize (fs.getD k fd0).2.1 = n at *
      generalize (fs.getD k fd0).1 = kd at *
      have hBw : w.heap.size ≤ B := hH3
      cases failed with
      | true =>
        obtain rfl := hs1 rfl
        clear hs1 hs2 hwsz
        by_cases h1 : kd = 1
        · subst h1
          have hpx : (pxN n).size ≤ 8 := pxN_size n
          have P22 : Hid (∀ W u, Wd W → Wr W (B + 1) B u ⟨#[]⟩ true → Calls Tryd.prog 22 #[.pointer (some ⟨B, 0, none⟩), .int .i64 n] W fun x w' => x = .returned (.tuple #[]) ∧ (∃ v', Wr w' (B + 1) B v' ⟨#[]⟩ true) ∧ Fr (B + 1) B W w') := by
            show ∀ W u, Wd W → Wr W (B + 1) B u ⟨#[]⟩ true → Calls Tryd.prog 22 #[.pointer (some ⟨B, 0, none⟩), .int .i64 n] W fun x w' => x = .returned (.tuple #[]) ∧ (∃ v', Wr w' (B + 1) B v' ⟨#[]⟩ true) ∧ Fr (B + 1) B W w'
            intro W u hW hR
            have hx := wnum_any (B + 1) B u ⟨#[]⟩ true n n1 n2 (by decide) (fun _ => rfl) W hW hR
            exact hx
          have P23 : Hid (∀ W, Calls Tryd.prog 23 #[.int .i64 n] W fun x w' => x = .returned (.tuple #[.string (pxN n), .bool (decide (okN n))]) ∧ Below W.heap.size W w') := by
            show ∀ W, Calls Tryd.prog 23 #[.int .i64 n] W fun x w' => x = .returned (.tuple #[.string (pxN n), .bool (decide (okN n))]) ∧ Below W.heap.size W w'
            intro W
            have hx := rfN_any n n2 W
            exact hx
          generalize pxN n = px at *
          generalize decide (okN n) = ok at *
          go_wp2_with fail
          refine (P22.out _ _ (hdr.alloc _) (HWR.out.alloc _)).mono ?_
          rintro x w5 ⟨rfl, ⟨v5, hw5⟩, hf5⟩
          have c5 := fr_cell1 hf5 hBl
          have HW5 := Lib.hid hw5
          have HB5 := Lib.hid (Fr.below (HBEL.out.alloc hH _) hf5 hBw (by omega))
          clear hw5 hf5 P22 ck cn ct
          go_wp2_with fail
          refine (P23.out _).mono ?_
          rintro x w6 ⟨rfl, hb6⟩
          have HW6 := Lib.hid (HW5.out.below hb6)
          have HB6 := Lib.hid (HB5.out.trans (hb6.mono HB5.out.size))
          clear hb6 c5 P23 HW5 HB5
          go_wp2_with fail
          refine (bytes_dead (B + 1) B _ _ _ HW6.out).mono ?_
          rintro x w7 ⟨rfl, rfl⟩
          go_wp2
          go_roundw
          case rel => exact ⟨k + 1, true, ⟨#[]⟩, (want ++ px), _, by omega, by go_num, rfl, rfl, HW6.out, fun _ => rfl, fun e => (by cases e), (by rw [ByteArray.size_append]; omega), HB6.out⟩
          case measure => simp [intOf]; omega
        have k1 : (kd == 1) = false := by rw [beq_eq_false_iff_ne]; exact h1
        by_cases h2 : kd = 2
        · subst h2
          clear k1 h1
          have hpx : (pxS n).size ≤ 8 := pxS_size n
          have P22 : Hid (∀ W u, Wd W → Wr W (B + 1) B u ⟨#[]⟩ true → Calls Tryd.prog 24 #[.pointer (some ⟨B, 0, none⟩), .int .i64 n] W fun x w' => x = .returned (.tuple #[]) ∧ (∃ v', Wr w' (B + 1) B v' ⟨#[]⟩ true) ∧ Fr (B + 1) B W w') := by
            show ∀ W u, Wd W → Wr W (B + 1) B u ⟨#[]⟩ true → Calls Tryd.prog 24 #[.pointer (some ⟨B, 0, none⟩), .int .i64 n] W fun x w' => x = .returned (.tuple #[]) ∧ (∃ v', Wr w' (B + 1) B v' ⟨#[]⟩ true) ∧ Fr (B + 1) B W w'
            intro W u hW hR
            have hx := wsgn_any (B + 1) B u ⟨#[]⟩ true n n1 n2 (by decide) (fun _ => rfl) W hW hR
            exact hx
          have P23 : Hid (∀ W, Calls Tryd.prog 25 #[.int .i64 n] W fun x w' => x = .returned (.tuple #[.string (pxS n), .bool (decide (okS n))]) ∧ Below W.heap.size W w') := by
            show ∀ W, Calls Tryd.prog 25 #[.int .i64 n] W fun x w' => x = .returned (.tuple #[.string (pxS n), .bool (decide (okS n))]) ∧ Below W.heap.size W w'
            intro W
            have hx := rfS_any n W
            exact hx
          generalize pxS n = px at *
          generalize decide (okS n) = ok at *
          go_wp2_with fail
          refine (P22.out _ _ (hdr.alloc _) (HWR.out.alloc _)).mono ?_
          rintro x w5 ⟨rfl, ⟨v5, hw5⟩, hf5⟩
          have c5 := fr_cell1 hf5 hBl
          have HW5 := Lib.hid hw5
          have HB5 := Lib.hid (Fr.below (HBEL.out.alloc hH _) hf5 hBw (by omega))
          clear hw5 hf5 P22 ck cn ct
          go_wp2_with fail
          refine (P23.out _).mono ?_
          rintro x w6 ⟨rfl, hb6⟩
          have HW6 := Lib.hid (HW5.out.below hb6)
          have HB6 := Lib.hid (HB5.out.trans (hb6.mono HB5.out.size))
          clear hb6 c5 P23 HW5 HB5
          go_wp2_with fail
          refine (bytes_dead (B + 1) B _ _ _ HW6.out).mono ?_
          rintro x w7 ⟨rfl, rfl⟩
          go_wp2
          go_roundw
          case rel => exact ⟨k + 1, true, ⟨#[]⟩, (want ++ px), _, by omega, by go_num, rfl, rfl, HW6.out, fun _ => rfl, fun e => (by cases e), (by rw [ByteArray.size_append]; omega), HB6.out⟩
          case measure => simp [intOf]; omega
        have k2 : (kd == 2) = false := by rw [beq_eq_false_iff_ne]; exact h2
        by_cases h3 : kd = 3
        · subst h3
          clear k1 h1 k2 h2
          have hpx : (pxT t).size ≤ 208 := Nat.le_trans (pxT_size t (by omega)) (by omega)
          have P22 : Hid (∀ W u, Wd W → Wr W (B + 1) B u ⟨#[]⟩ true → Calls Tryd.prog 26 #[.pointer (some ⟨B, 0, none⟩), .string t] W fun x w' => x = .returned (.tuple #[]) ∧ (∃ v', Wr w' (B + 1) B v' ⟨#[]⟩ true) ∧ Fr (B + 1) B W w') := fun W u hW hR => wtxt_any (B + 1) B u ⟨#[]⟩ t true (by omega) (by have e : (⟨#[]⟩ : ByteArray).size = 0 := rfl; omega) (fun _ => rfl) W hW hR
          have P23 : Hid (∀ W, Calls Tryd.prog 27 #[.string t] W fun x w' => x = .returned (.string (pxT t)) ∧ Below W.heap.size W w') := fun W => rfT_any t (by omega) W
          generalize pxT t = px at *
          go_wp2_with fail
          refine (P22.out _ _ (hdr.alloc _) (HWR.out.alloc _)).mono ?_
          rintro x w5 ⟨rfl, ⟨v5, hw5⟩, hf5⟩
          have c5 := fr_cell2 hf5 hBl
          have HW5 := Lib.hid hw5
          have HB5 := Lib.hid (Fr.below (HBEL.out.alloc hH _) hf5 hBw (by omega))
          clear hw5 hf5 P22 ck cn ct
          go_wp2_with fail
          refine (P23.out _).mono ?_
          rintro x w6 ⟨rfl, hb6⟩
          have HW6 := Lib.hid (HW5.out.below hb6)
          have HB6 := Lib.hid (HB5.out.trans (hb6.mono HB5.out.size))
          clear hb6 c5 P23 HW5 HB5
          go_wp2_with fail
          refine (bytes_dead (B + 1) B _ _ _ HW6.out).mono ?_
          rintro x w7 ⟨rfl, rfl⟩
          go_wp2
          go_roundw
          case rel => exact ⟨k + 1, true, ⟨#[]⟩, (want ++ px), _, by omega, by go_num, rfl, rfl, HW6.out, fun _ => rfl, fun e => (by cases e), (by rw [ByteArray.size_append]; omega), HB6.out⟩
          case measure => simp [intOf]; omega
        have k3 : (kd == 3) = false := by rw [beq_eq_false_iff_ne]; exact h3
        clear h1 h2 h3
        have HW6 := Lib.hid (HWR.out.alloc (.cells #[.int .i64 kd, .int .i64 n, .string t] 31))
        have HB6 := Lib.hid (HBEL.out.alloc hH (.cells #[.int .i64 kd, .int .i64 n, .string t] 31))
        have he1 := app_emp want
        go_wp2_with fail
        refine (bytes_dead (B + 1) B _ _ _ HW6.out).mono ?_
        rintro x w7 ⟨rfl, rfl⟩
        go_wp2
        go_roundw
        case rel => exact ⟨k + 1, true, ⟨#[]⟩, want, _, by omega, by go_num, rfl, rfl, HW6.out, fun _ => rfl, fun e => (by cases e), (by omega), HB6.out⟩
        case measure => simp [intOf]; omega
      | false =>
        obtain rfl := hs2 rfl
        clear hs1 hs2 hwsz
        by_cases h1 : kd = 1
        · subst h1
          by_cases hok : okN n
          · have hpx : (pxN n).size ≤ 8 := pxN_size n
            have P22 : Hid (∀ W u, Wd W → Wr W (B + 1) B u s false → Calls Tryd.prog 22 #[.pointer (some ⟨B, 0, none⟩), .int .i64 n] W fun x w' => x = .returned (.tuple #[]) ∧ (∃ v', Wr w' (B + 1) B v' (s ++ pxN n) false) ∧ Fr (B + 1) B W w') := by
              show ∀ W u, Wd W → Wr W (B + 1) B u s false → Calls Tryd.prog 22 #[.pointer (some ⟨B, 0, none⟩), .int .i64 n] W fun x w' => x = .returned (.tuple #[]) ∧ (∃ v', Wr w' (B + 1) B v' (s ++ pxN n) false) ∧ Fr (B + 1) B W w'
              intro W u hW hR
              have hx := wnum_any (B + 1) B u s false n n1 n2 (by omega) (fun e => by cases e) W hW hR
              rw [wS_N, decide_eq_true hok] at hx
              exact hx
            have P23 : Hid (∀ W, Calls Tryd.prog 23 #[.int .i64 n] W fun x w' => x = .returned (.tuple #[.string (pxN n), .bool true]) ∧ Below W.heap.size W w') := by
              show ∀ W, Calls Tryd.prog 23 #[.int .i64 n] W fun x w' => x = .returned (.tuple #[.string (pxN n), .bool true]) ∧ Below W.heap.size W w'
              intro W
              have hx := rfN_any n n2 W
              rw [decide_eq_true hok] at hx
              exact hx
            generalize pxN n = px at *
            clear hok
            go_wp2_with fail
            refine (P22.out _ _ (hdr.alloc _) (HWR.out.alloc _)).mono ?_
            rintro x w5 ⟨rfl, ⟨v5, hw5⟩, hf5⟩
            have c5 := fr_cell1 hf5 hBl
            have HW5 := Lib.hid hw5
            have HB5 := Lib.hid (Fr.below (HBEL.out.alloc hH _) hf5 hBw (by omega))
            clear hw5 hf5 P22 ck cn ct
            go_wp2_with fail
            refine (P23.out _).mono ?_
            rintro x w6 ⟨rfl, hb6⟩
            have HW6 := Lib.hid (HW5.out.below hb6)
            have HB6 := Lib.hid (HB5.out.trans (hb6.mono HB5.out.size))
            clear hb6 c5 P23 HW5 HB5
            go_wp2_with fail
            refine (bytes_live (B + 1) B _ _ _ HW6.out).mono ?_
            rintro x w7 ⟨rfl, rfl⟩
            go_wp2
            go_roundw
            case rel => exact ⟨k + 1, false, (s ++ px), (s ++ px), _, by omega, by go_num, rfl, rfl, HW6.out, fun e => (by cases e), fun _ => rfl, (by rw [ByteArray.size_append]; omega), HB6.out⟩
            case measure => simp [intOf]; omega
          · have hpx : (pxN n).size ≤ 8 := pxN_size n
            have P22 : Hid (∀ W u, Wd W → Wr W (B + 1) B u s false → Calls Tryd.prog 22 #[.pointer (some ⟨B, 0, none⟩), .int .i64 n] W fun x w' => x = .returned (.tuple #[]) ∧ (∃ v', Wr w' (B + 1) B v' ⟨#[]⟩ true) ∧ Fr (B + 1) B W w') := by
              show ∀ W u, Wd W → Wr W (B + 1) B u s false → Calls Tryd.prog 22 #[.pointer (some ⟨B, 0, none⟩), .int .i64 n] W fun x w' => x = .returned (.tuple #[]) ∧ (∃ v', Wr w' (B + 1) B v' ⟨#[]⟩ true) ∧ Fr (B + 1) B W w'
              intro W u hW hR
              have hx := wnum_any (B + 1) B u s false n n1 n2 (by omega) (fun e => by cases e) W hW hR
              rw [wS_N, decide_eq_false hok] at hx
              exact hx
            have P23 : Hid (∀ W, Calls Tryd.prog 23 #[.int .i64 n] W fun x w' => x = .returned (.tuple #[.string (pxN n), .bool false]) ∧ Below W.heap.size W w') := by
              show ∀ W, Calls Tryd.prog 23 #[.int .i64 n] W fun x w' => x = .returned (.tuple #[.string (pxN n), .bool false]) ∧ Below W.heap.size W w'
              intro W
              have hx := rfN_any n n2 W
              rw [decide_eq_false hok] at hx
              exact hx
            generalize pxN n = px at *
            clear hok
            go_wp2_with fail
            refine (P22.out _ _ (hdr.alloc _) (HWR.out.alloc _)).mono ?_
            rintro x w5 ⟨rfl, ⟨v5, hw5⟩, hf5⟩
            have c5 := fr_cell1 hf5 hBl
            have HW5 := Lib.hid hw5
            have HB5 := Lib.hid (Fr.below (HBEL.out.alloc hH _) hf5 hBw (by omega))
            clear hw5 hf5 P22 ck cn ct
            go_wp2_with fail
            refine (P23.out _).mono ?_
            rintro x w6 ⟨rfl, hb6⟩
            have HW6 := Lib.hid (HW5.out.below hb6)
            have HB6 := Lib.hid (HB5.out.trans (hb6.mono HB5.out.size))
            clear hb6 c5 P23 HW5 HB5
            go_wp2_with fail
            refine (bytes_dead (B + 1) B _ _ _ HW6.out).mono ?_
            rintro x w7 ⟨rfl, rfl⟩
            go_wp2
            go_roundw
            case rel => exact ⟨k + 1, true, ⟨#[]⟩, (s ++ px), _, by omega, by go_num, rfl, rfl, HW6.out, fun _ => rfl, fun e => (by cases e), (by rw [ByteArray.size_append]; omega), HB6.out⟩
            case measure => simp [intOf]; omega
        have k1 : (kd == 1) = false := by rw [beq_eq_false_iff_ne]; exact h1
        by_cases h2 : kd = 2
        · subst h2
          clear k1 h1
          by_cases hok : okS n
          · have hpx : (pxS n).size ≤ 8 := pxS_size n
            have P22 : Hid (∀ W u, Wd W → Wr W (B + 1) B u s false → Calls Tryd.prog 24 #[.pointer (some ⟨B, 0, none⟩), .int .i64 n] W fun x w' => x = .returned (.tuple #[]) ∧ (∃ v', Wr w' (B + 1) B v' (s ++ pxS n) false) ∧ Fr (B + 1) B W w') := by
              show ∀ W u, Wd W → Wr W (B + 1) B u s false → Calls Tryd.prog 24 #[.pointer (some ⟨B, 0, none⟩), .int .i64 n] W fun x w' => x = .returned (.tuple #[]) ∧ (∃ v', Wr w' (B + 1) B v' (s ++ pxS n) false) ∧ Fr (B + 1) B W w'
              intro W u hW hR
              have hx := wsgn_any (B + 1) B u s false n n1 n2 (by omega) (fun e => by cases e) W hW hR
              rw [wS_S, decide_eq_true hok] at hx
              exact hx
            have P23 : Hid (∀ W, Calls Tryd.prog 25 #[.int .i64 n] W fun x w' => x = .returned (.tuple #[.string (pxS n), .bool true]) ∧ Below W.heap.size W w') := by
              show ∀ W, Calls Tryd.prog 25 #[.int .i64 n] W fun x w' => x = .returned (.tuple #[.string (pxS n), .bool true]) ∧ Below W.heap.size W w'
              intro W
              have hx := rfS_any n W
              rw [decide_eq_true hok] at hx
              exact hx
            generalize pxS n = px at *
            clear hok
            go_wp2_with fail
            refine (P22.out _ _ (hdr.alloc _) (HWR.out.alloc _)).mono ?_
            rintro x w5 ⟨rfl, ⟨v5, hw5⟩, hf5⟩
            have c5 := fr_cell1 hf5 hBl
            have HW5 := Lib.hid hw5
            have HB5 := Lib.hid (Fr.below (HBEL.out.alloc hH _) hf5 hBw (by omega))
            clear hw5 hf5 P22 ck cn ct
            go_wp2_with fail
            refine (P23.out _).mono ?_
            rintro x w6 ⟨rfl, hb6⟩
            have HW6 := Lib.hid (HW5.out.below hb6)
            have HB6 := Lib.hid (HB5.out.trans (hb6.mono HB5.out.size))
            clear hb6 c5 P23 HW5 HB5
            go_wp2_with fail
            refine (bytes_live (B + 1) B _ _ _ HW6.out).mono ?_
            rintro x w7 ⟨rfl, rfl⟩
            go_wp2
            go_roundw
            case rel => exact ⟨k + 1, false, (s ++ px), (s ++ px), _, by omega, by go_num, rfl, rfl, HW6.out, fun e => (by cases e), fun _ => rfl, (by rw [ByteArray.size_append]; omega), HB6.out⟩
            case measure => simp [intOf]; omega
          · have hpx : (pxS n).size ≤ 8 := pxS_size n
            have P22 : Hid (∀ W u, Wd W → Wr W (B + 1) B u s false → Calls Tryd.prog 24 #[.pointer (some ⟨B, 0, none⟩), .int .i64 n] W fun x w' => x = .returned (.tuple #[]) ∧ (∃ v', Wr w' (B + 1) B v' ⟨#[]⟩ true) ∧ Fr (B + 1) B W w') := by
              show ∀ W u, Wd W → Wr W (B + 1) B u s false → Calls Tryd.prog 24 #[.pointer (some ⟨B, 0, none⟩), .int .i64 n] W fun x w' => x = .returned (.tuple #[]) ∧ (∃ v', Wr w' (B + 1) B v' ⟨#[]⟩ true) ∧ Fr (B + 1) B W w'
              intro W u hW hR
              have hx := wsgn_any (B + 1) B u s false n n1 n2 (by omega) (fun e => by cases e) W hW hR
              rw [wS_S, decide_eq_false hok] at hx
              exact hx
            have P23 : Hid (∀ W, Calls Tryd.prog 25 #[.int .i64 n] W fun x w' => x = .returned (.tuple #[.string (pxS n), .bool false]) ∧ Below W.heap.size W w') := by
              show ∀ W, Calls Tryd.prog 25 #[.int .i64 n] W fun x w' => x = .returned (.tuple #[.string (pxS n), .bool false]) ∧ Below W.heap.size W w'
              intro W
              have hx := rfS_any n W
              rw [decide_eq_false hok] at hx
              exact hx
            generalize pxS n = px at *
            clear hok
            go_wp2_with fail
            refine (P22.out _ _ (hdr.alloc _) (HWR.out.alloc _)).mono ?_
            rintro x w5 ⟨rfl, ⟨v5, hw5⟩, hf5⟩
            have c5 := fr_cell1 hf5 hBl
            have HW5 := Lib.hid hw5
            have HB5 := Lib.hid (Fr.below (HBEL.out.alloc hH _) hf5 hBw (by omega))
            clear hw5 hf5 P22 ck cn ct
            go_wp2_with fail
            refine (P23.out _).mono ?_
            rintro x w6 ⟨rfl, hb6⟩
            have HW6 := Lib.hid (HW5.out.below hb6)
            have HB6 := Lib.hid (HB5.out.trans (hb6.mono HB5.out.size))
            clear hb6 c5 P23 HW5 HB5
            go_wp2_with fail
            refine (bytes_dead (B + 1) B _ _ _ HW6.out).mono ?_
            rintro x w7 ⟨rfl, rfl⟩
            go_wp2
            go_roundw
            case rel => exact ⟨k + 1, true, ⟨#[]⟩, (s ++ px), _, by omega, by go_num, rfl, rfl, HW6.out, fun _ => rfl, fun e => (by cases e), (by rw [ByteArray.size_append]; omega), HB6.out⟩
            case measure => simp [intOf]; omega
        have k2 : (kd == 2) = false := by rw [beq_eq_false_iff_ne]; exact h2
        by_cases h3 : kd = 3
        · subst h3
          clear k1 h1 k2 h2
          have hpx : (pxT t).size ≤ 208 := Nat.le_trans (pxT_size t (by omega)) (by omega)
          have P22 : Hid (∀ W u, Wd W → Wr W (B + 1) B u s false → Calls Tryd.prog 26 #[.pointer (some ⟨B, 0, none⟩), .string t] W fun x w' => x = .returned (.tuple #[]) ∧ (∃ v', Wr w' (B + 1) B v' (s ++ pxT t) false) ∧ Fr (B + 1) B W w') := fun W u hW hR => wtxt_any (B + 1) B u s t false (by omega) (by omega) (fun e => by cases e) W hW hR
          have P23 : Hid (∀ W, Calls Tryd.prog 27 #[.string t] W fun x w' => x = .returned (.string (pxT t)) ∧ Below W.heap.size W w') := fun W => rfT_any t (by omega) W
          generalize pxT t = px at *
          go_wp2_with fail
          refine (P22.out _ _ (hdr.alloc _) (HWR.out.alloc _)).mono ?_
          rintro x w5 ⟨rfl, ⟨v5, hw5⟩, hf5⟩
          have c5 := fr_cell2 hf5 hBl
          have HW5 := Lib.hid hw5
          have HB5 := Lib.hid (Fr.below (HBEL.out.alloc hH _) hf5 hBw (by omega))
          clear hw5 hf5 P22 ck cn ct
          go_wp2_with fail
          refine (P23.out _).mono ?_
          rintro x w6 ⟨rfl, hb6⟩
          have HW6 := Lib.hid (HW5.out.below hb6)
          have HB6 := Lib.hid (HB5.out.trans (hb6.mono HB5.out.size))
          clear hb6 c5 P23 HW5 HB5
          go_wp2_with fail
          refine (bytes_live (B + 1) B _ _ _ HW6.out).mono ?_
          rintro x w7 ⟨rfl, rfl⟩
          go_wp2
          go_roundw
          case rel => exact ⟨k + 1, false, (s ++ px), (s ++ px), _, by omega, by go_num, rfl, rfl, HW6.out, fun e => (by cases e), fun _ => rfl, (by rw [ByteArray.size_append]; omega), HB6.out⟩
          case measure => simp [intOf]; omega
        have k3 : (kd == 3) = false := by rw [beq_eq_false_iff_ne]; exact h3
        clear h1 h2 h3
        have HW6 := Lib.hid (HWR.out.alloc (.cells #[.int .i64 kd, .int .i64 n, .string t] 31))
        have HB6 := Lib.hid (HBEL.out.alloc hH (.cells #[.int .i64 kd, .int .i64 n, .string t] 31))
        have he1 := app_emp s
        go_wp2_with fail
        refine (bytes_live (B + 1) B _ _ _ HW6.out).mono ?_
        rintro x w7 ⟨rfl, rfl⟩
        go_wp2
        go_roundw
        case rel => exact ⟨k + 1, false, s, s, _, by omega, by go_num, rfl, rfl, HW6.out, fun e => (by cases e), fun _ => rfl, (by omega), HB6.out⟩
        case measure => simp [intOf]; omega
    · obtain rfl : k = len := by omega
      go_wp2
      go_ret
      exact ⟨rfl, HBEL.out⟩
theorem walkWrites (a : Option Addr) (len cap : Nat) (fs : List Fd) (w : World) (hd : Wd w) (h : IsFs w a len fs) :
    Calls Tryd.prog 4 #[.slice a len cap] w fun x w' => x = .returned (.bool true) ∧ Below w.heap.size w w' := by
  by_cases hg : greatS ⟨#[]⟩ len fs
  · exact writes_great a len cap fs hg w hd h
  · exact writes_play a len cap fs hg w hd h
end Go.Proofs.YtgeafheoaffooaaDoor
