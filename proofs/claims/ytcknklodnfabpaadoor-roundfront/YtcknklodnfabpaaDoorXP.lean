/- Put, both; the document's Bytes. -/
import Derived.Test.YtcknklodnfabpaaDoorXM2
namespace Go.Proofs.YtcknklodnfabpaaDoor
open Go Go.RowKit
/-- A number written. -/
theorem P1.num {w wr : World} {bw : Nat} {s : ByteArray} (h : P1 w wr bw s) {n : Int} (hn : okN n) (hsz : s.size + 8 ≤ 140737488355328) :
    Calls Tryd.prog 24 #[.pointer (some ⟨bw, 0, none⟩), .int .i64 n] wr fun x w' => x = .returned (.tuple #[]) ∧ P1 w w' bw (s ++ pxN n) ∧ Fr (bw + 1) bw wr w' := by
  obtain ⟨v, hv⟩ := h.gat
  refine (wnum_any (bw + 1) bw v s false n (by have := hn.1; omega) (by have := hn.2; omega) hsz (fun e => by cases e) wr h.d hv).mono ?_
  rintro x W' ⟨rfl, hw, hf⟩
  rw [wS_N, decide_eq_true hn] at hw
  exact ⟨rfl, h.wrote hw hf, hf⟩
/-- The writer, and the round beside it. -/
structure PP (w wr : World) (bw : Nat) (s : ByteArray) (o n : Int) (a : Option Addr) (len cap : Nat) : Prop where
  p : P1 w wr bw s
  lo : w.heap.size < bw
  rb : Rb wr w.heap.size o n a len cap
theorem PP.num {w wr : World} {bw : Nat} {s : ByteArray} {o n : Int} {a : Option Addr} {len cap : Nat} (h : PP w wr bw s o n a len cap) {x : Int} (hn : okN x) (hsz : s.size + 8 ≤ 140737488355328) :
    Calls Tryd.prog 24 #[.pointer (some ⟨bw, 0, none⟩), .int .i64 x] wr fun y w' => y = .returned (.tuple #[]) ∧ PP w w' bw (s ++ pxN x) o n a len cap := by
  refine (h.p.num hn hsz).mono ?_
  rintro y w' ⟨rfl, hp, hf⟩
  have := h.lo
  exact ⟨rfl, hp, h.lo, (hf.low _ (by omega) (by omega)).trans h.rb⟩
theorem PP.upd {w wr : World} {bw : Nat} {s : ByteArray} (h : P1 w wr bw s) {u : Up} (hu : mayE u = 0) (hsz : s.size + 3000 ≤ 140737488355328) (x : Obj) :
    Calls Tryd.prog 25 #[.pointer (some ⟨bw, 0, none⟩), uu u] (wr.alloc x) fun y w' => y = .returned (.tuple #[]) ∧ P1 w w' bw (s ++ pxU u) := by
  have h' := h.below (Joins.below_alloc1 wr x)
  have := h.pos
  have := h.lo
  refine (wrt_any (bw + 1) bw s u (by omega) hsz hu _ h'.d h'.gat).mono ?_
  rintro y w' ⟨rfl, hw, hf⟩
  exact ⟨rfl, h'.wrote hw hf⟩
set_option maxHeartbeats 1000000 in
theorem rndput_no (o n : Int) (a : Option Addr) (len cap : Nat) (us : List Up) (e : Int) (hm : mayR o n us = e) (he : e ≠ 0) (w : World) (hu : IsUs w a len us) :
    Calls Tryd.prog 12 #[.agg #[.int .i64 o, .int .i64 n, .slice a len cap]] w fun x w' => x = .returned (.tuple #[.string ⟨#[]⟩, .int .i64 e]) ∧ Below w.heap.size w w' := by
  have k1 : (e == 0) = false := by rw [beq_eq_false_iff_ne]; exact he
  have hr := Rb.new w o n a len cap
  have hB := Joins.below_alloc1 w (.cells #[.int .i64 o, .int .i64 n, .slice a len cap] 24)
  have HM := Lib.hid (rndmay_any o n a len cap us _ (isUs_below hu hB))
  rw [hm] at HM
  have c0 := hr.c0
  have c1 := hr.c1
  have c2 := hr.c2
  have HB := Lib.hid hB
  clear hr hB hu hm he
  go_enter Tryd.func12, Tryd.ntmps12
  go_wp2_with fail
  refine HM.out.mono ?_
  rintro x w1 ⟨rfl, hb⟩
  have HB1 := Lib.hid (Below.next HB.out hb)
  clear hb HB HM c0 c1 c2
  go_wp2
  go_ret2
  exact ⟨rfl, HB1.out⟩
theorem okN_of {n : Int} (h : 1 ≤ n) (h2 : n ≤ 1099511627776) : okN n := by unfold okN; omega
set_option maxHeartbeats 4000000 in
theorem rndput_yes (o n : Int) (a : Option Addr) (len cap : Nat) (us : List Up) (hm : mayR o n us = 0) (w : World) (hd : Wd w) (hu : IsUs w a len us) :
    Calls Tryd.prog 12 #[.agg #[.int .i64 o, .int .i64 n, .slice a len cap]] w fun x w' => x = .returned (.tuple #[.string (pxR o n us), .int .i64 0]) ∧ Below w.heap.size w w' := by
  have hsz := hu.size
  have hr := Rb.new w o n a len cap
  have hB := Joins.below_alloc1 w (.cells #[.int .i64 o, .int .i64 n, .slice a len cap] 24)
  have HM := Lib.hid (rndmay_any o n a len cap us _ (isUs_below hu hB))
  rw [hm] at HM
  obtain ⟨h1, h2⟩ := mayR_zero hm
  unfold headOk at h1
  rw [hsz] at h1
  have hl8 : len ≤ 8 := h1.2.2.2.2.2
  have ko : okN o := okN_of h1.1 (by omega)
  have kn : okN n := okN_of h1.2.2.1 (by omega)
  have kl : okN (len : Int) := by unfold okN; omega
  have HK := Lib.hid (mayL_zero us h2)
  have HZ := Lib.hid (fun k hk => catU_size us k hk (fun i hi => mayL_zero us h2 i (by omega)))
  have HKO := Lib.hid ko
  have HKN := Lib.hid kn
  have HKL := Lib.hid kl
  have z1 := pxN_size o
  have z2 := pxN_size n
  have z3 := pxN_size (len : Int)
  have HE : Hid (pxR o n us = pxN o ++ pxN n ++ pxN (len : Int) ++ catU (us.take len)) := by
    show pxR o n us = _
    unfold pxR pxH
    rw [hsz, List.take_of_length_le (by omega)]
  generalize pxR o n us = px at *
  have c0 := hr.c0
  have c1 := hr.c1
  have c2 := hr.c2
  have HR := Lib.hid hr
  have HB := Lib.hid hB
  have HU := Lib.hid hu
  have HD := Lib.hid hd
  clear hr hB hu hm hd ko kn kl h1 h2
  go_enter Tryd.func12, Tryd.ntmps12
  go_wp2_with fail
  refine HM.out.mono ?_
  rintro x w1 ⟨rfl, hb⟩
  have hB1 := Below.next HB.out hb
  have hR1 := (HR.out.next hb).alloc (.cells #[.slice none 0 0, .bool false] 51)
  have hlo : w.heap.size < w1.heap.size := (HR.out.next hb).lt
  have HP := Lib.hid (PP.mk (P1.start HD.out hB1) hlo hR1)
  have c0 := hR1.c0
  clear hb hB1 hR1 HB HM HR hlo c1 c2 HD
  go_wp2_with fail
  generalize hbw : w1.heap.size = bw at *
  clear hbw
  refine (HP.out.num HKO.out (by show 0 + 8 ≤ _; omega)).mono ?_
  rintro x w2 ⟨rfl, hp⟩
  rw [emp_app] at hp
  have c1 := hp.rb.c1
  have HP1 := Lib.hid hp
  clear hp HP c0
  go_wp2_with fail
  refine (HP1.out.num HKN.out (by omega)).mono ?_
  rintro x w3 ⟨rfl, hp⟩
  have c2 := hp.rb.c2
  have HP2 := Lib.hid hp
  clear hp HP1 c1
  go_wp2_with fail
  refine (HP2.out.num HKL.out (by simp only [ByteArray.size_append]; omega)).mono ?_
  rintro x w4 ⟨rfl, hp⟩
  have c2 := hp.rb.c2
  have HP3 := Lib.hid hp.p
  clear hp HP2 HKO HKN HKL
  go_wp2_with fail
  clear c2
  go_loopw [26] (fun v26 wr => ∃ k : Nat, k ≤ len ∧ v26 = .int .i64 k ∧ P1 w wr bw (pxN o ++ pxN n ++ pxN (len : Int) ++ catU (us.take k))) (fun v26 _ => len - (intOf v26).toNat)
  case atStart => exact ⟨0, Nat.zero_le _, rfl, by show P1 w w4 bw (_ ++ ⟨#[]⟩); rw [app_empty]; exact HP3.out⟩
  case round =>
    obtain ⟨k, hk, rfl, hp⟩ := hrel
    clear HP3
    have HP := Lib.hid hp
    clear hp
    by_cases hlt : k < len
    · obtain ⟨b, off, rfl, hbl, c0, c1, c2, c3⟩ := cells_of HU.out HP.out.bel hlt
      have hcz := HZ.out k (by omega)
      have HW := fun x => Lib.hid (PP.upd HP.out (u := us.getD k up0) (HK.out k (by omega)) (by simp only [ByteArray.size_append]; omega) x)
      have HS := Lib.hid (catU_step us k (by omega))
      clear HP hbl
      rw [ByteArray.append_assoc, ← HS.out] at HW
      generalize us.getD k up0 = u at *
      obtain ⟨key, x, nn, s⟩ := u
      simp only [uu] at c0 c1 c2 c3 HW
      go_wp2_with fail
      refine (HW _).out.mono ?_
      rintro e w5 ⟨rfl, hp⟩
      have HP := Lib.hid hp
      clear hp HW
      go_wp2
      go_roundw
      case rel => exact ⟨k + 1, by omega, by go_num, HP.out⟩
      case measure => simp [intOf]; omega
    · obtain rfl : k = len := by omega
      rw [← HE.out] at HP
      obtain ⟨v, hv⟩ := HP.out.gat
      have HV := Lib.hid hv
      clear hv
      go_wp2_with fail
      refine (bytes_live _ _ _ _ _ HV.out).mono ?_
      rintro x w6 ⟨rfl, rfl⟩
      go_wp2
      go_ret2
      exact ⟨rfl, HP.out.bel⟩
theorem rndput_any (o n : Int) (a : Option Addr) (len cap : Nat) (us : List Up) (w : World) (hd : Wd w) (hu : IsUs w a len us) :
    Calls Tryd.prog 12 #[.agg #[.int .i64 o, .int .i64 n, .slice a len cap]] w fun x w' => x = .returned (.tuple #[.string (putR o n us), .int .i64 (mayR o n us)]) ∧ Below w.heap.size w w' := by
  unfold putR
  by_cases h : mayR o n us = 0
  · rw [if_pos h, h]; exact rndput_yes o n a len cap us h w hd hu
  · rw [if_neg h]; exact rndput_no o n a len cap us _ rfl h w hu
set_option maxHeartbeats 4000000 in
theorem docbytes (o n : Int) (a : Option Addr) (len cap : Nat) (us : List Up) (hm : mayR o n us = 0) (w : World) (hu : IsUs w a len us) :
    Calls Tryd.prog 15 #[.agg #[.int .i64 o, .int .i64 n, .slice a len cap]] w fun x w' => x = .returned (.string (pxR o n us)) ∧ Below w.heap.size w w' := by
  have hsz := hu.size
  have hr := Rb.new w o n a len cap
  have hB := Joins.below_alloc1 w (.cells #[.int .i64 o, .int .i64 n, .slice a len cap] 24)
  obtain ⟨h1, h2⟩ := mayR_zero hm
  unfold headOk at h1
  rw [hsz] at h1
  have hl8 : len ≤ 8 := h1.2.2.2.2.2
  have HN1 := Lib.hid (fun w => rfN_any o (by omega) w)
  have HN2 := Lib.hid (fun w => rfN_any n (by omega) w)
  have HN3 := Lib.hid (fun w => rfN_any (len : Int) (by omega) w)
  have HK := Lib.hid (mayL_zero us h2)
  have HZ := Lib.hid (fun k hk => catU_size us k hk (fun i hi => mayL_zero us h2 i (by omega)))
  have z1 := pxN_size o
  have z2 := pxN_size n
  have z3 := pxN_size (len : Int)
  have HE : Hid (pxR o n us = pxN o ++ pxN n ++ pxN (len : Int) ++ catU (us.take len)) := by
    show pxR o n us = _
    unfold pxR pxH
    rw [hsz, List.take_of_length_le (by omega)]
  generalize pxR o n us = px at *
  generalize pxN o = p1 at *
  generalize pxN n = p2 at *
  generalize pxN (len : Int) = p3 at *
  generalize decide (okN o) = k1 at *
  generalize decide (okN n) = k2 at *
  generalize decide (okN (len : Int)) = k3 at *
  have y1 : ¬ 9223372036854775807 < p1.size + p2.size := by omega
  have y2 : ¬ 9223372036854775807 < (p1 ++ p2).size + p3.size := by rw [ByteArray.size_append]; omega
  have c0 := hr.c0
  have HR := Lib.hid hr
  have HB := Lib.hid hB
  have HU := Lib.hid hu
  clear hr hB hu hm h1 h2
  go_enter Tryd.func15, Tryd.ntmps15
  go_wp2_with fail
  refine (HN1.out _).mono ?_
  rintro x w1 ⟨rfl, hb⟩
  have HB1 := Lib.hid (Below.next HB.out hb)
  have hR := HR.out.next hb
  have c1 := hR.c1
  have HR1 := Lib.hid hR
  clear hb hR HR HB HN1 c0
  go_wp2_with fail
  refine (HN2.out _).mono ?_
  rintro x w2 ⟨rfl, hb⟩
  have HB2 := Lib.hid (Below.next HB1.out hb)
  have hR := HR1.out.next hb
  have c2 := hR.c2
  have HR2 := Lib.hid hR
  clear hb hR HR1 HB1 HN2 c1
  go_wp2_with fail
  refine (HN3.out _).mono ?_
  rintro x w3 ⟨rfl, hb⟩
  have HB3 := Lib.hid (Below.next HB2.out hb)
  have HR3 := Lib.hid (HR2.out.next hb)
  clear hb HR2 HB2 HN3 c2
  go_wp2_with fail
  clear y1 y2
  go_loopw [9, 10] (fun v9 v10 wr => ∃ k : Nat, k ≤ len ∧ v10 = .int .i64 k ∧ v9 = .string (p1 ++ p2 ++ p3 ++ catU (us.take k)) ∧ Rb wr w.heap.size o n a len cap ∧ Below w.heap.size w wr) (fun _ v10 _ => len - (intOf v10).toNat)
  case atStart => exact ⟨0, Nat.zero_le _, rfl, by show _ = Value.string (_ ++ ⟨#[]⟩); rw [app_empty], HR3.out, HB3.out⟩
  case round =>
    obtain ⟨k, hk, rfl, rfl, hr, hbel⟩ := hrel
    clear HR3 HB3
    have d2 := hr.c2
    have HR := Lib.hid hr
    clear hr
    by_cases hlt : k < len
    · obtain ⟨b, off, rfl, hbl, c0, c1, c2, c3⟩ := cells_of HU.out hbel hlt
      have HBEL := Lib.hid hbel
      have hcz := HZ.out k (by omega)
      have hpz := pxU_size _ (HK.out k (by omega))
      have HC := fun w => Lib.hid (byt_any (us.getD k up0) (HK.out k (by omega)) w)
      have HS : Hid (p1 ++ p2 ++ p3 ++ catU (us.take k) ++ pxU (us.getD k up0) = p1 ++ p2 ++ p3 ++ catU (us.take (k + 1))) := by
        show _ = _
        rw [catU_step us k (by omega), ByteArray.append_assoc]
      have y1 : ¬ 9223372036854775807 < (p1 ++ p2 ++ p3 ++ catU (us.take k)).size + (pxU (us.getD k up0)).size := by simp only [ByteArray.size_append]; omega
      clear hbel hbl hcz hpz
      generalize p1 ++ p2 ++ p3 ++ catU (us.take k) = acc at *
      generalize pxU (us.getD k up0) = pu at *
      generalize us.getD k up0 = u at *
      obtain ⟨key, x, nn, s⟩ := u
      simp only [uu] at c0 c1 c2 c3 HC
      go_wp2_with fail
      refine (HC _).out.mono ?_
      rintro e w2 ⟨rfl, hb⟩
      have HB2 := Lib.hid (Below.next HBEL.out hb)
      have HR2 := Lib.hid (HR.out.next hb)
      clear hb HBEL HC HR d2
      go_wp2
      go_roundw
      case rel => exact ⟨k + 1, by omega, by go_num, by rw [HS.out], HR2.out, HB2.out⟩
      case measure => simp [intOf]; omega
    · obtain rfl : k = len := by omega
      rw [← HE.out]
      have HBEL := Lib.hid hbel
      clear hbel
      go_wp2
      go_ret
      exact ⟨rfl, HBEL.out⟩
end Go.Proofs.YtcknklodnfabpaaDoor
