import Derived.Test.YtbbgibekplfacaaDoorB7
/- Put, both; the document's Bytes. -/
namespace Go.Proofs.YtbbgibekplfacaaDoor.X
open Go Go.RowKit
/-- A number written. -/
theorem P1.num {w wr : World} {bw : Nat} {s : ByteArray} (h : P1 w wr bw s) {n : Int} (hn : okN n) (hsz : s.size + 8 ≤ 140737488355328) :
    Calls Tryd.prog 78 #[.pointer (some ⟨bw, 0, none⟩), .int .i64 n] wr fun x w' => x = .returned (.tuple #[]) ∧ P1 w w' bw (s ++ pxN n) ∧ Fr (bw + 1) bw wr w' := by
  obtain ⟨v, hv⟩ := h.gat
  refine (wnum_any (bw + 1) bw v s false n (by have := hn.1; omega) (by have := hn.2; omega) hsz (fun e => by cases e) wr h.d hv).mono ?_
  rintro x W' ⟨rfl, hw, hf⟩
  rw [wS_N, decide_eq_true hn] at hw
  exact ⟨rfl, h.wrote hw hf, hf⟩
/-- The writer, and the round beside it. -/
structure PP (w wr : World) (bw : Nat) (s : ByteArray) (o n : Int) (a : Option Addr) (len cap : Nat) : Prop where
  p : P1 w wr bw s
  lo : w.heap.size < bw
  rb : Rb wr w.heap.size o n a len cap
theorem PP.num {w wr : World} {bw : Nat} {s : ByteArray} {o n : Int} {a : Option Addr} {len cap : Nat} (h : PP w wr bw s o n a len cap) {x : Int} (hn : okN x) (hsz : s.size + 8 ≤ 140737488355328) :
    Calls Tryd.prog 78 #[.pointer (some ⟨bw, 0, none⟩), .int .i64 x] wr fun y w' => y = .returned (.tuple #[]) ∧ PP w w' bw (s ++ pxN x) o n a len cap := by
  refine (h.p.num hn hsz).mono ?_
  rintro y w' ⟨rfl, hp, hf⟩
  have := h.lo
  exact ⟨rfl, hp, h.lo, (hf.low _ (by omega) (by omega)).trans h.rb⟩
theorem PP.upd {w wr : World} {bw : Nat} {s : ByteArray} (h : P1 w wr bw s) {u : Up} (hu : mayE u = 0) (hsz : s.size + 3000 ≤ 140737488355328) (x : Obj) :
    Calls Tryd.prog 79 #[.pointer (some ⟨bw, 0, none⟩), uu u] (wr.alloc x) fun y w' => y = .returned (.tuple #[]) ∧ P1 w w' bw (s ++ pxU u) := by
  have h' := h.below (Joins.below_alloc1 wr x)
  have := h.pos
  have := h.lo
  refine (wrt_any (bw + 1) bw s u (by omega) hsz hu _ h'.d h'.gat).mono ?_
  rintro y w' ⟨rfl, hw, hf⟩
  exact ⟨rfl, h'.wrote hw hf⟩
set_option maxHeartbeats 1000000 in
theorem rndput_no (o n : Int) (a : Option Addr) (len cap : Nat) (us : List Up) (e : Int) (hm : mayR o n us = e) (he : e ≠ 0) (w : World) (hu : IsUs w a len us) :
    Calls Tryd.prog 69 #[.agg #[.int .i64 o, .int .i64 n, .slice a len cap]] w fun x w' => x = .returned (.tuple #[.string ⟨#[]⟩, .int .i64 e]) ∧ Below w.heap.size w w' := by
  have k1 : (e == 0) = false := by rw [beq_eq_false_iff_ne]; exact he
  have hr := Rb.new w o n a len cap
  have hB := Joins.below_alloc1 w (.cells #[.int .i64 o, .int .i64 n, .slice a len cap] 35)
  have HM := Lib.hid (rndmay_any o n a len cap us _ (isUs_below hu hB))
  rw [hm] at HM
  have c0 := hr.c0
  have c1 := hr.c1
  have c2 := hr.c2
  have HB := Lib.hid hB
  clear hr hB hu hm he
  go_enter Tryd.func69, Tryd.ntmps69
  go_wp2_with fail
  refine HM.out.mono ?_
  rintro x w1 ⟨rfl, hb⟩
  have HB1 := Lib.hid (Below.next HB.out hb)
  clear hb HB HM c0 c1 c2
  go_wp2
  go_ret2
  exact ⟨rfl, HB1.out⟩
theorem okN_of {n : Int} (h : 1 ≤ n) (h2 : n ≤ 1099511627776) : okN n := by unfold okN; omega
set_option maxHeartbeats 4000000 in
theorem rndput_yes (o n : Int) (a : Option Addr) (len cap : Nat) (us : List Up) (hm : mayR o n us = 0) (w : World) (hd : Wd w) (hu : IsUs w a len us) :
    Calls Tryd.prog 69 #[.agg #[.int .i64 o, .int .i64 n, .slice a len cap]] w fun x w' => x = .returned (.tuple #[.string (pxR o n us), .int .i64 0]) ∧ Below w.heap.size w w' := by
  have hsz := hu.size
  have hr := Rb.new w o n a len cap
  have hB := Joins.below_alloc1 w (.cells #[.int .i64 o, .int .i64 n, .slice a len cap] 35)
  have HM := Lib.hid (rndmay_any o n a len cap us _ (isUs_below hu hB))
  rw [hm] at HM
  obtain ⟨h1, h2⟩ := mayR_zero hm
  unfold headOk at h1
  rw [hsz] at h1
  have hl8 : len ≤ 8 := h1.2.2.2.2.2
  have ko : okN o := okN_of h1.1 (by omega)
  have kn : okN n := okN_of h1.2.2.1 (by omega)
  have kl : okN (len : Int) := by unfold okN; omega
  have HK := Lib.hid (mayL_zero us h2)
  have HZ := Lib.hid (fun k hk => catU_size us k hk (fun i hi => mayL_zero us h2 i (by omega)))
  have HKO := Lib.hid ko
  have HKN := Lib.hid kn
  have HKL := Lib.hid kl
  have z1 := pxN_size o
  have z2 := pxN_size n
  have z3 := pxN_size (len : Int)
  have HE : Hid (pxR o n us = pxN o ++ pxN n ++ pxN (len : Int) ++ catU (us.take len)) := by
    show pxR o n us = _
    unfold pxR pxH
    rw [hsz, List.take_of_length_le (by omega)]
  generalize pxR o n us = px at *
  have c0 := hr.c0
  have c1 := hr.c1
  have c2 := hr.c2
  have HR := Lib.hid hr
  have HB := Lib.hid hB
  have HU := Lib.hid hu
  have HD := Lib.hid hd
  clear hr hB hu hm hd ko kn kl h1 h2
  go_enter Tryd.func69, Tryd.ntmps69
  go_wp2_with fail
  refine HM.out.mono ?_
  rintro x w1 ⟨rfl, hb⟩
  have hB1 := Below.next HB.out hb
  have hR1 := (HR.out.next hb).alloc (.cells #[.slice none 0 0, .bool false] 117)
  have hlo : w.heap.size < w1.heap.size := (HR.out.next hb).lt
  have HP := Lib.hid (PP.mk (P1.start HD.out hB1) hlo hR1)
  have c0 := hR1.c0
  clear hb hB1 hR1 HB HM HR hlo c1 c2 HD
  go_wp2_with fail
  generalize hbw : w1.heap.size = bw at *
  clear hbw
  refine (HP.out.num HKO.out (by show 0 + 8 ≤ _; omega)).mono ?_
  rintro x w2 ⟨rfl, hp⟩
  rw [emp_app] at hp
  have c1 := hp.rb.c1
  have HP1 := Lib.hid hp
  clear hp HP c0
  go_wp2_with fail
  refine (HP1.out.num HKN.out (by omega)).mono ?_
  rintro x w3 ⟨rfl, hp⟩
  have c2 := hp.rb.c2
  have HP2 := Lib.hid hp
  clear hp HP1 c1
  go_wp2_with fail
  refine (HP2.out.num HKL.out (by simp only [ByteArray.size_append]; omega)).mono ?_
  rintro x w4 ⟨rfl, hp⟩
  have c2 := hp.rb.c2
  have HP3 := Lib.hid hp.p
  clear hp HP2 HKO HKN HKL
  go_wp2_with fail
  clear c2
  go_loopw [26] (fun v26 wr => ∃ k : Nat, k ≤ len ∧ v26 = .int .i64 k ∧ P1 w wr bw (pxN o ++ pxN n ++ pxN (len : Int) ++ catU (us.take k))) (fun v26 _ => len - (intOf v26).toNat)
  case atStart => exact ⟨0, Nat.zero_le _, rfl, by show P1 w w4 bw (_ ++ ⟨#[]⟩); rw [app_empty]; exact HP3.out⟩
  case round =>
    obtain ⟨k, hk, rfl, hp⟩ := hrel
    clear HP3
    have HP := Lib.hid hp
    clear hp
    by_cases hlt : k < len
    · obtain ⟨b, off, rfl, hbl, c0, c1, c2, c3⟩ := cells_of HU.out HP.out.bel hlt
      have hcz := HZ.out k (by omega)
      have HW := fun x => Lib.hid (PP.upd HP.out (u := us.getD k up0) (HK.out k (by omega)) (by simp only [ByteArray.size_append]; omega) x)
      have HS := Lib.hid (catU_step us k (by omega))
      clear HP hbl
      rw [ByteArray.append_assoc, ← HS.out] at HW
      generalize us.getD k up0 = u at *
      obtain ⟨key, x, nn, s⟩ := u
      simp only [uu] at c0 c1 c2 c3 HW
      go_wp2_with fail
      refine (HW _).out.mono ?_
      rintro e w5 ⟨rfl, hp⟩
      have HP := Lib.hid hp
      clear hp HW
      go_wp2
      go_roundw
      case rel => exact ⟨k + 1, by omega, by go_num, HP.out⟩
      case measure => simp [intOf]; omega
    · obtain rfl : k = len := by omega
      rw [← HE.out] at HP
      obtain ⟨v, hv⟩ := HP.out.gat
      have HV := Lib.hid hv
      clear hv
      go_wp2_with fail
      refine (bytes_live _ _ _ _ _ HV.out).mono ?_
      rintro x w6 ⟨rfl, rfl⟩
      go_wp2
      go_ret2
      exact ⟨rfl, HP.out.bel⟩
theorem rndput_any (o n : Int) (a : Option Addr) (len cap : Nat) (us : List Up) (w : World) (hd : Wd w) (hu : IsUs w a len us) :
    Calls Tryd.prog 69 #[.agg #[.int .i64 o, .int .i64 n, .slice a len cap]] w fun x w' => x = .returned (.tuple #[.string (putR o n us), .int .i64 (mayR o n us)]) ∧ Below w.heap.size w w' := by
  unfold putR
  by_cases h : mayR o n us = 0
  · rw [if_pos h, h]; exact rndput_yes o n a len cap us h w hd hu
  · rw [if_neg h]; exact rndput_no o n a len cap us _ rfl h w hu
set_option maxHeartbeats 4000000 in
theorem docbytes (o n : Int) (a : Option Addr) (len cap : Nat) (us : List Up) (hm : mayR o n us = 0) (w : World) (hu : IsUs w a len us) :
    Calls Tryd.prog 72 #[.agg #[.int .i64 o, .int .i64 n, .slice a len cap]] w fun x w' => x = .returned (.string (pxR o n us)) ∧ Below w.heap.size w w' := by
  have hsz := hu.size
  have hr := Rb.new w o n a len cap
  have hB := Joins.below_alloc1 w (.cells #[.int .i64 o, .int .i64 n, .slice a len cap] 35)
  obtain ⟨h1, h2⟩ := mayR_zero hm
  unfold headOk at h1
  rw [hsz] at h1
  have hl8 : len ≤ 8 := h1.2.2.2.2.2
  have HN1 := Lib.hid (fun w => rfN_any o (by omega) w)
  have HN2 := Lib.hid (fun w => rfN_any n (by omega) w)
  have HN3 := Lib.hid (fun w => rfN_any (len : Int) (by omega) w)
  have HK := Lib.hid (mayL_zero us h2)
  have HZ := Lib.hid (fun k hk => catU_size us k hk (fun i hi => mayL_zero us h2 i (by omega)))
  have z1 := pxN_size o
  have z2 := pxN_size n
  have z3 := pxN_size (len : Int)
  have HE : Hid (pxR o n us = pxN o ++ pxN n ++ pxN (len : Int) ++ catU (us.take len)) := by
    show pxR o n us = _
    unfold pxR pxH
    rw [hsz, List.take_of_length_le (by omega)]
  generalize pxR o n us = px at *
  generalize pxN o = p1 at *
  generalize pxN n = p2 at *
  generalize pxN (len : Int) = p3 at *
  generalize decide (okN o) = k1 at *
  generalize decide (okN n) = k2 at *
  generalize decide (okN (len : Int)) = k3 at *
  have y1 : ¬ 9223372036854775807 < p1.size + p2.size := by omega
  have y2 : ¬ 9223372036854775807 < (p1 ++ p2).size + p3.size := by rw [ByteArray.size_append]; omega
  have c0 := hr.c0
  have HR := Lib.hid hr
  have HB := Lib.hid hB
  have HU := Lib.hid hu
  clear hr hB hu hm h1 h2
  go_enter Tryd.func72, Tryd.ntmps72
  go_wp2_with fail
  refine (HN1.out _).mono ?_
  rintro x w1 ⟨rfl, hb⟩
  have HB1 := Lib.hid (Below.next HB.out hb)
  have hR := HR.out.next hb
  have c1 := hR.c1
  have HR1 := Lib.hid hR
  clear hb hR HR HB HN1 c0
  go_wp2_with fail
  refine (HN2.out _).mono ?_
  rintro x w2 ⟨rfl, hb⟩
  have HB2 := Lib.hid (Below.next HB1.out hb)
  have hR := HR1.out.next hb
  have c2 := hR.c2
  have HR2 := Lib.hid hR
  clear hb hR HR1 HB1 HN2 c1
  go_wp2_with fail
  refine (HN3.out _).mono ?_
  rintro x w3 ⟨rfl, hb⟩
  have HB3 := Lib.hid (Below.next HB2.out hb)
  have HR3 := Lib.hid (HR2.out.next hb)
  clear hb HR2 HB2 HN3 c2
  go_wp2_with fail
  clear y1 y2
  go_loopw [9, 10] (fun v9 v10 wr => ∃ k : Nat, k ≤ len ∧ v10 = .int .i64 k ∧ v9 = .string (p1 ++ p2 ++ p3 ++ catU (us.take k)) ∧ Rb wr w.heap.size o n a len cap ∧ Below w.heap.size w wr) (fun _ v10 _ => len - (intOf v10).toNat)
  case atStart => exact ⟨0, Nat.zero_le _, rfl, by show _ = Value.string (_ ++ ⟨#[]⟩); rw [app_empty], HR3.out, HB3.out⟩
  case round =>
    obtain ⟨k, hk, rfl, rfl, hr, hbel⟩ := hrel
    clear HR3 HB3
    have d2 := hr.c2
    have HR := Lib.hid hr
    clear hr
    by_cases hlt : k < len
    · obtain ⟨b, off, rfl, hbl, c0, c1, c2, c3⟩ := cells_of HU.out hbel hlt
      have HBEL := Lib.hid hbel
      have hcz := HZ.out k (by omega)
      have hpz := pxU_size _ (HK.out k (by omega))
      have HC := fun w => Lib.hid (byt_any (us.getD k up0) (HK.out k (by omega)) w)
      have HS : Hid (p1 ++ p2 ++ p3 ++ catU (us.take k) ++ pxU (us.getD k up0) = p1 ++ p2 ++ p3 ++ catU (us.take (k + 1))) := by
        show _ = _
        rw [catU_step us k (by omega), ByteArray.append_assoc]
      have y1 : ¬ 9223372036854775807 < (p1 ++ p2 ++ p3 ++ catU (us.take k)).size + (pxU (us.getD k up0)).size := by simp only [ByteArray.size_append]; omega
      clear hbel hbl hcz hpz
      generalize p1 ++ p2 ++ p3 ++ catU (us.take k) = acc at *
      generalize pxU (us.getD k up0) = pu at *
      generalize us.getD k up0 = u at *
      obtain ⟨key, x, nn, s⟩ := u
      simp only [uu] at c0 c1 c2 c3 HC
      go_wp2_with fail
      refine (HC _).out.mono ?_
      rintro e w2 ⟨rfl, hb⟩
      have HB2 := Lib.hid (Below.next HBEL.out hb)
      have HR2 := Lib.hid (HR.out.next hb)
      clear hb HBEL HC HR d2
      go_wp2
      go_roundw
      case rel => exact ⟨k + 1, by omega, by go_num, by rw [HS.out], HR2.out, HB2.out⟩
      case measure => simp [intOf]; omega
    · obtain rfl : k = len := by omega
      rw [← HE.out]
      have HBEL := Lib.hid hbel
      clear hbel
      go_wp2
      go_ret
      exact ⟨rfl, HBEL.out⟩
end Go.Proofs.YtbbgibekplfacaaDoor.X
/- Plain mathematics: rounds that are put and got, got and put, cut, and longer. -/
namespace Go.Proofs.YtbbgibekplfacaaDoor.X
open Go
theorem rdn (x y : ByteArray) (n m : Int) (hn : 1 ≤ n) (hm : n ≤ bd m) (h2 : n ≤ 1099511627776) : numV (x ++ pxN n ++ y) x.size 0 m = n ∧ rawA (x ++ pxN n ++ y) x.size 0 = x.size + (pxN n).size ∧ hdE (x ++ pxN n ++ y) x.size 0 m = 0 := by
  have ok : okN n := by unfold okN; omega
  obtain ⟨r1, r2, r3⟩ := rd_raw x y n ok
  rw [← pxN_put n ok] at r1 r2 r3
  have hs : x.size ≤ (x ++ pxN n ++ y).size := by simp only [ByteArray.size_append]; omega
  obtain ⟨n1, n2⟩ := (num_of _ x.size m _ hs r1 r3).1 hm
  exact ⟨n1, r2, hdE_of _ _ _ n2 (by rw [n1]; omega)⟩
/-- What stands at the front, whatever stands behind. -/
theorem rd_head (o n : Int) (k : Nat) (h : headOk o n k) (y : ByteArray) :
    numV (pxH o n k ++ y) 0 0 64 = o ∧ e1 (pxH o n k ++ y) = 0 ∧ numV (pxH o n k ++ y) (a1 (pxH o n k ++ y)) (e1 (pxH o n k ++ y)) 1099511627776 = n ∧ e2 (pxH o n k ++ y) = 0 ∧ k3 (pxH o n k ++ y) = k ∧ a3 (pxH o n k ++ y) = (pxH o n k).size ∧ e3 (pxH o n k ++ y) = 0 := by
  unfold headOk at h
  have b1 := bd64
  have b2 := bd40
  have b3 := bd8
  have hB1 : pxH o n k ++ y = ⟨#[]⟩ ++ pxN o ++ (pxN n ++ pxN (k : Int) ++ y) := by unfold pxH; rw [emp_app]; simp only [ByteArray.append_assoc]
  have hB2 : pxH o n k ++ y = pxN o ++ pxN n ++ (pxN (k : Int) ++ y) := by unfold pxH; simp only [ByteArray.append_assoc]
  have hB3 : pxH o n k ++ y = (pxN o ++ pxN n) ++ pxN (k : Int) ++ y := by unfold pxH; rfl
  obtain ⟨p1, p2, p3⟩ := rdn ⟨#[]⟩ (pxN n ++ pxN (k : Int) ++ y) o 64 h.1 (by omega) (by omega)
  obtain ⟨q1, q2, q3⟩ := rdn (pxN o) (pxN (k : Int) ++ y) n 1099511627776 h.2.2.1 (by omega) (by omega)
  obtain ⟨r1, r2, r3⟩ := rdn (pxN o ++ pxN n) y (k : Int) 8 (by omega) (by omega) (by omega)
  rw [← hB1] at p1 p2 p3
  rw [← hB2] at q1 q2 q3
  rw [← hB3] at r1 r2 r3
  rw [show (⟨#[]⟩ : ByteArray).size = 0 from rfl] at p1 p2 p3
  rw [Nat.zero_add] at p2
  have w1 : a1 (pxH o n k ++ y) = (pxN o).size := p2
  have w2 : e1 (pxH o n k ++ y) = 0 := p3
  have w3 : a2 (pxH o n k ++ y) = (pxN o ++ pxN n).size := by unfold a2; rw [w1, w2, q2, ByteArray.size_append]
  have w4 : e2 (pxH o n k ++ y) = 0 := by unfold e2; rw [w1, w2, q3]
  refine ⟨p1, w2, by rw [w1, w2, q1], w4, ?_, ?_, ?_⟩
  · unfold k3; rw [w3, w4, r1]; omega
  · unfold a3; rw [w3, w4, r2]; unfold pxH; simp only [ByteArray.size_append]
  · unfold e3; rw [w3, w4, r3]
/-- .. and behind it so many updates. -/
theorem rd_ups (H : ByteArray) (us : List Up) (hm : ∀ i, i < us.length → mayE (us.getD i up0) = 0) : ∀ (j : Nat) (y : ByteArray), j ≤ us.length →
    updsR (H ++ catU (us.take j) ++ y) j H.size 0 = (us.take j, (H ++ catU (us.take j)).size, 0)
  | 0, y, _ => by
    show (([] : List Up), H.size, (0 : Int)) = _
    simp only [List.take_zero, catU, app_empty]
  | j + 1, y, hj => by
    have hs := catU_step us j (by omega)
    have hB : H ++ catU (us.take (j + 1)) ++ y = H ++ catU (us.take j) ++ (pxU (us.getD j up0) ++ y) := by rw [hs]; simp only [ByteArray.append_assoc]
    have ih := rd_ups H us hm j (pxU (us.getD j up0) ++ y) (by omega)
    rw [← hB] at ih
    have hu := rd_u (H ++ catU (us.take j)) y (us.getD j up0) (hm j (by omega))
    rw [show H ++ catU (us.take j) ++ pxU (us.getD j up0) ++ y = H ++ catU (us.take (j + 1)) ++ y by rw [hB]; simp only [ByteArray.append_assoc]] at hu
    show ((updsR _ j H.size 0).1 ++ [(updR _ (updsR _ j H.size 0).2.1 (updsR _ j H.size 0).2.2).1], (updR _ (updsR _ j H.size 0).2.1 (updsR _ j H.size 0).2.2).2) = _
    rw [ih]
    simp only
    rw [hu, utake_step us j (by omega), catU_append]
    simp only [catU, app_empty, ByteArray.size_append, Nat.add_assoc]
theorem rd_all (o n : Int) (us : List Up) (h : mayR o n us = 0) (y : ByteArray) : getUs (pxR o n us ++ y) = (us, (pxR o n us).size, 0) := by
  obtain ⟨h1, h2⟩ := mayR_zero h
  have e : pxR o n us ++ y = pxH o n us.length ++ (catU us ++ y) := by unfold pxR; rw [ByteArray.append_assoc]
  obtain ⟨_, _, _, _, r5, r6, r7⟩ := rd_head o n us.length h1 (catU us ++ y)
  have hu := rd_ups (pxH o n us.length) us (mayL_zero us h2) us.length y (Nat.le_refl _)
  rw [List.take_length] at hu
  unfold getUs
  rw [e, r5, r6, r7, ← e]
  exact hu
theorem back_r (o n : Int) (us : List Up) (h : mayR o n us = 0) : geE (pxR o n us) = 0 ∧ geO (pxR o n us) = o ∧ geN (pxR o n us) = n ∧ geL (pxR o n us) = us := by
  have hg := rd_all o n us h ⟨#[]⟩
  rw [app_empty] at hg
  have e0 : geE (pxR o n us) = 0 := by unfold geE; rw [hg]; exact end_all _
  obtain ⟨h1, _⟩ := mayR_zero h
  obtain ⟨r1, _, r3, _⟩ := rd_head o n us.length h1 (catU us)
  refine ⟨e0, ?_, ?_, ?_⟩
  · unfold geO; rw [if_neg (by simp [e0])]; exact r1
  · unfold geN; rw [if_neg (by simp [e0])]; exact r3
  · unfold geL; rw [if_neg (by simp [e0]), hg]
/-- Bytes that are got are a round's that may be, as it is put. -/
theorem got_hd (s : ByteArray) (A : Nat) (m : Int) (hA : A ≤ s.size) (h : hdE s A 0 m = 0) : 1 ≤ numV s A 0 m ∧ numV s A 0 m ≤ bd m ∧ pxN (numV s A 0 m) = s.extract A (rawA s A 0) ∧ A ≤ rawA s A 0 ∧ rawA s A 0 ≤ s.size := by
  obtain ⟨h1, h2⟩ := hdE_zero s A m hA h
  obtain ⟨r1, r2, r3⟩ := got_num s A m hA h1
  obtain ⟨q1, q2, q3, q4⟩ := got_raw s A hA r1
  exact ⟨by omega, by omega, by rw [r2, pxN_put _ q1, q2], q3, q4⟩
theorem got_ups (s : ByteArray) (A : Nat) (hA : A ≤ s.size) : ∀ k, (updsR s k A 0).2.2 = 0 → (∀ i, i < k → mayE ((updsR s k A 0).1.getD i up0) = 0) ∧ catU (updsR s k A 0).1 = s.extract A (updsR s k A 0).2.1 ∧ A ≤ (updsR s k A 0).2.1 ∧ (updsR s k A 0).2.1 ≤ s.size
  | 0, _ => by
    refine ⟨fun i hi => absurd hi (by omega), ?_, Nat.le_refl _, hA⟩
    show (⟨#[]⟩ : ByteArray) = s.extract A A
    apply eq_of_byt
    · simp; rfl
    · intro i hi; exact absurd hi (by show ¬ i < 0; omega)
  | k + 1, h => by
    have h0 : (updsR s k A 0).2.2 = 0 := by
      rcases Classical.em ((updsR s k A 0).2.2 = 0) with hx | hx
      · exact hx
      · have := updsR_stays s k (k + 1) A 0 hx (by omega)
        rw [this] at h
        exact h
    obtain ⟨i1, i2, i3, i4⟩ := got_ups s A hA k h0
    have hl := updsR_len s k A 0
    have hS : updsR s (k + 1) A 0 = ((updsR s k A 0).1 ++ [(updR s (updsR s k A 0).2.1 0).1], (updR s (updsR s k A 0).2.1 0).2) := by
      rw [show updsR s (k + 1) A 0 = ((updsR s k A 0).1 ++ [(updR s (updsR s k A 0).2.1 (updsR s k A 0).2.2).1], (updR s (updsR s k A 0).2.1 (updsR s k A 0).2.2).2) from rfl, h0]
    rw [hS] at h ⊢
    simp only at h ⊢
    generalize updsR s k A 0 = r at *
    obtain ⟨l, P, E⟩ := r
    simp only at *
    obtain ⟨⟨u, Q, F⟩, hq⟩ : ∃ q, updR s P 0 = q := ⟨_, rfl⟩
    rw [hq] at h ⊢
    simp only at h ⊢
    subst h
    obtain ⟨g1, g2, g3, g4⟩ := got_upd s P i4 u Q hq
    refine ⟨fun i hi => ?_, ?_, by omega, g4⟩
    · rcases Nat.lt_or_ge i k with hx | hx
      · have := i1 i hx
        rw [List.getD_eq_getElem?_getD, List.getElem?_append_left (by omega), ← List.getD_eq_getElem?_getD]
        exact this
      · obtain rfl : i = k := by omega
        rw [List.getD_eq_getElem?_getD, List.getElem?_append_right (by omega), hl, Nat.sub_self]
        exact g1
    · rw [catU_append, i2]
      simp only [catU, app_empty]
      rw [g2]
      exact ext_join s _ _ _ i3 g3 g4
theorem one_r (s : ByteArray) (h : geE s = 0) : mayR (geO s) (geN s) (geL s) = 0 ∧ pxR (geO s) (geN s) (geL s) = s := by
  have h1 : e1 s = 0 := by
    rcases Classical.em (e1 s = 0) with hx | hx
    · exact hx
    · rw [geE_1 s hx] at h; exact h
  have h2 : e2 s = 0 := by
    rcases Classical.em (e2 s = 0) with hx | hx
    · exact hx
    · rw [geE_2 s hx] at h; exact h
  have h3 : e3 s = 0 := by
    rcases Classical.em (e3 s = 0) with hx | hx
    · exact hx
    · rw [geE_3 s hx] at h; exact h
  have r1 : geO s = numV s 0 0 64 := if_neg (by simp [h])
  have r2 : geN s = numV s (a1 s) (e1 s) 1099511627776 := if_neg (by simp [h])
  have r3 : geL s = (getUs s).1 := if_neg (by simp [h])
  have hE : (getUs s).2.2 = 0 := by
    rcases Classical.em ((getUs s).2.2 = 0) with hx | hx
    · exact hx
    · have := endE_dead s (getUs s).2.1 _ hx
      unfold geE at h
      rw [this] at h
      exact h
  obtain ⟨o1, o2, o3, o4, o5⟩ := got_hd s 0 64 (Nat.zero_le _) h1
  have hn : hdE s (a1 s) 0 1099511627776 = 0 := by have := h2; unfold e2 at this; rw [h1] at this; exact this
  obtain ⟨n1, n2, n3, n4, n5⟩ := got_hd s (a1 s) 1099511627776 (a1_le s) hn
  have hk : hdE s (a2 s) 0 8 = 0 := by have := h3; unfold e3 at this; rw [h2] at this; exact this
  obtain ⟨k1, k2, k3', k4, k5⟩ := got_hd s (a2 s) 8 (a2_le s) hk
  have w2 : a2 s = rawA s (a1 s) 0 := by unfold a2; rw [h1]
  have w3 : a3 s = rawA s (a2 s) 0 := by unfold a3; rw [h2]
  have hK := k3_le s
  rw [h2] at hK
  have hU : getUs s = updsR s (k3 s) (a3 s) 0 := by unfold getUs; rw [h3]
  rw [hU] at hE
  obtain ⟨u1, u2, u3, u4⟩ := got_ups s (a3 s) (a3_le s) (k3 s) hE
  have hl := updsR_len s (k3 s) (a3 s) 0
  have hA : (updsR s (k3 s) (a3 s) 0).2.1 = s.size := by
    unfold geE at h
    rw [hU, hE] at h
    unfold endE at h
    rw [if_neg (by simp)] at h
    split at h
    · exact absurd h (by decide)
    · omega
  rw [bd64] at o2
  rw [bd40] at n2
  have hmay : mayR (geO s) (geN s) (geL s) = 0 := by
    have hh : headOk (geO s) (geN s) (geL s).length := by
      rw [r1, r2, r3, hU, hl, h1]
      unfold headOk
      refine ⟨o1, o2, n1, n2, ?_, hK.2⟩
      have := hK.1
      omega
    rw [mayR_yes hh]
    refine mayL_of _ fun i hi => ?_
    rw [r3, hU] at hi ⊢
    exact u1 i (by omega)
  refine ⟨hmay, ?_⟩
  unfold pxR pxH
  rw [r3, hU, hl, ← hK.1, r1, r2, h1, o3, n3, k3', u2, hA, ← w3, ← w2]
  rw [show rawA s 0 0 = a1 s from rfl]
  rw [ext_join s 0 (a1 s) (a2 s) (Nat.zero_le _) (by rw [w2]; exact n4) (a2_le s), ext_join s 0 (a2 s) (a3 s) (Nat.zero_le _) (by rw [w3]; exact k4) (a3_le s), ext_join s 0 (a3 s) s.size (Nat.zero_le _) (a3_le s) (Nat.le_refl _), ext_all]
/-- A beginning that isn't all. -/
theorem cut_left (p y : ByteArray) (c : Nat) (h1 : p.size ≤ c) (h2 : c ≤ (p ++ y).size) : (p ++ y).extract 0 c = p ++ y.extract 0 (c - p.size) := by
  have hz : (p ++ y).size = p.size + y.size := ByteArray.size_append
  apply eq_of_byt
  · simp only [ByteArray.size_extract, ByteArray.size_append]; omega
  · intro i hi
    have hi' : i < c := by simp only [ByteArray.size_extract, ByteArray.size_append] at hi; omega
    rw [byt_extract _ _ _ _ (by omega) (by omega), Nat.zero_add]
    rcases Nat.lt_or_ge i p.size with hx | hx
    · rw [byt_left _ _ _ hx, byt_left _ _ _ hx]
    · obtain ⟨q, rfl⟩ : ∃ q, i = p.size + q := ⟨i - p.size, by omega⟩
      rw [byt_right _ _ _ (by omega), byt_right _ _ _ (by simp only [ByteArray.size_extract]; omega), byt_extract _ _ _ _ (by omega) (by omega), Nat.zero_add]
theorem cut_hd (B : ByteArray) (c At : Nat) (m : Int) (hA : At ≤ c) (hc : c ≤ B.size) (hE : hdE B At 0 m = 0) :
    (rawA B At 0 ≤ c ∧ rawA (B.extract 0 c) At 0 = rawA B At 0 ∧ hdE (B.extract 0 c) At 0 m = 0) ∨ hdE (B.extract 0 c) At 0 m = 2 := by
  have hs := cut_size B c hc
  obtain ⟨h1, h2⟩ := hdE_zero B At m (by omega) hE
  rcases cut_num B c At m hA hc h1 with ⟨b1, b2, b3, b4⟩ | b1
  · exact .inl ⟨b1, b3, hdE_of _ _ _ b4 (by rw [b2]; omega)⟩
  · exact .inr (by rw [hdE_err _ _ _ (by omega) (by rw [b1]; decide), b1])
theorem cut_find (H : ByteArray) (us : List Up) (c : Nat) (h1 : H.size ≤ c) : ∀ n, n ≤ us.length → c < (H ++ catU (us.take n)).size → ∃ j, j < n ∧ (H ++ catU (us.take j)).size ≤ c ∧ c < (H ++ catU (us.take (j + 1))).size
  | 0, _, h => by
    simp only [List.take_zero, catU, app_empty] at h
    omega
  | n + 1, hn, h => by
    rcases Nat.lt_or_ge c (H ++ catU (us.take n)).size with hx | hx
    · obtain ⟨j, h1, h2, h3⟩ := cut_find H us c h1 n (by omega) hx
      exact ⟨j, by omega, h2, h3⟩
    · exact ⟨n, by omega, hx, h⟩
theorem front_r (o n : Int) (us : List Up) (h : mayR o n us = 0) (c : Nat) (hc : c < (pxR o n us).size) : geE ((pxR o n us).extract 0 c) = 2 := by
  obtain ⟨h1, h2⟩ := mayR_zero h
  rcases Nat.lt_or_ge c (pxH o n us.length).size with hx | hx
  · obtain ⟨r1, r2, r3, r4, r5, r6, r7⟩ := rd_head o n us.length h1 (catU us)
    rw [show pxH o n us.length ++ catU us = pxR o n us from rfl] at r1 r2 r3 r4 r5 r6 r7
    have hc' : c ≤ (pxR o n us).size := by omega
    generalize pxR o n us = B at *
    have hs := cut_size B c hc'
    have two : (2 : Int) ≠ 0 := by decide
    rcases cut_hd B c 0 64 (Nat.zero_le _) hc' r2 with ⟨b1, b2, b3⟩ | b1
    · have w1 : a1 (B.extract 0 c) = a1 B := b2
      have w2 : e1 (B.extract 0 c) = 0 := b3
      have r4' : hdE B (a1 B) 0 1099511627776 = 0 := by have := r4; unfold e2 at this; rw [r2] at this; exact this
      rcases cut_hd B c (a1 B) 1099511627776 b1 hc' r4' with ⟨d1, d2, d3⟩ | d1
      · have w3 : a2 (B.extract 0 c) = a2 B := by unfold a2; rw [w1, w2, r2]; exact d2
        have w4 : e2 (B.extract 0 c) = 0 := by unfold e2; rw [w1, w2]; exact d3
        have v3 : a2 B = rawA B (a1 B) 0 := by unfold a2; rw [r2]
        have r7' : hdE B (a2 B) 0 8 = 0 := by have := r7; unfold e3 at this; rw [r4] at this; exact this
        rcases cut_hd B c (a2 B) 8 (by rw [v3]; exact d1) hc' r7' with ⟨f1, f2, f3⟩ | f1
        · have v4 : a3 B = rawA B (a2 B) 0 := by unfold a3; rw [r4]
          omega
        · have f : e3 (B.extract 0 c) = 2 := by unfold e3; rw [w3, w4]; exact f1
          rw [geE_3 _ (by rw [f]; exact two), f]
      · have d : e2 (B.extract 0 c) = 2 := by unfold e2; rw [w1, w2]; exact d1
        rw [geE_2 _ (by rw [d]; exact two), d]
    · have b : e1 (B.extract 0 c) = 2 := b1
      rw [geE_1 _ (by rw [b]; exact two), b]
  · obtain ⟨j, j1, j2, j3⟩ := cut_find (pxH o n us.length) us c hx us.length (Nat.le_refl _) (by rw [List.take_length]; exact hc)
    obtain ⟨post, hp⟩ := catU_split us us.length j j1 (Nat.le_refl _)
    rw [List.take_length] at hp
    have hB : pxR o n us = pxH o n us.length ++ catU (us.take j) ++ (pxU (us.getD j up0) ++ post) := by unfold pxR; rw [hp]; simp only [ByteArray.append_assoc]
    have hC : (pxR o n us).extract 0 c = pxH o n us.length ++ catU (us.take j) ++ (pxU (us.getD j up0) ++ post).extract 0 (c - (pxH o n us.length ++ catU (us.take j)).size) := by
      rw [hB]
      exact cut_left _ _ _ j2 (by rw [← hB]; omega)
    have hC2 : (pxR o n us).extract 0 c = pxH o n us.length ++ (catU (us.take j) ++ (pxU (us.getD j up0) ++ post).extract 0 (c - (pxH o n us.length ++ catU (us.take j)).size)) := by rw [hC, ByteArray.append_assoc]
    obtain ⟨_, _, _, _, r5, r6, r7⟩ := rd_head o n us.length h1 (catU (us.take j) ++ (pxU (us.getD j up0) ++ post).extract 0 (c - (pxH o n us.length ++ catU (us.take j)).size))
    rw [← hC2] at r5 r6 r7
    have hu := rd_ups (pxH o n us.length) us (mayL_zero us h2) j ((pxU (us.getD j up0) ++ post).extract 0 (c - (pxH o n us.length ++ catU (us.take j)).size)) (by omega)
    rw [← hC] at hu
    have hup := rd_u (pxH o n us.length ++ catU (us.take j)) post (us.getD j up0) (mayL_zero us h2 j j1)
    rw [ByteArray.append_assoc, ← hB] at hup
    have hz : (pxH o n us.length ++ catU (us.take (j + 1))).size = (pxH o n us.length ++ catU (us.take j)).size + (pxU (us.getD j up0)).size := by rw [catU_step us j j1]; simp only [ByteArray.size_append, Nat.add_assoc]
    have hcut := cut_upd (pxR o n us) c _ j2 (by omega) _ _ hup (by omega)
    have hfin : (updsR ((pxR o n us).extract 0 c) (j + 1) (a3 ((pxR o n us).extract 0 c)) (e3 ((pxR o n us).extract 0 c))).2.2 = 2 := by
      rw [r6, r7]
      show (updR _ (updsR _ j _ 0).2.1 (updsR _ j _ 0).2.2).2.2 = 2
      rw [hu]
      exact hcut
    rw [geE_4 _ (j + 1) (by rw [r5]; omega) (by rw [hfin]; decide), hfin]
/-- No origin and no number has more bytes than the greatest. -/
theorem fits_r (o n : Int) (us : List Up) (h : headOk o n us.length) : (pxR o n us).size ≤ (pxR 64 1099511627776 us).size := by
  unfold headOk at h
  unfold pxR pxH
  simp only [ByteArray.size_append]
  have h1 : (pxN 64).size = 2 := by rfl
  have h2 : (pxN 1099511627776).size = 8 := by rfl
  have h3 := pxN_size n
  have h4 : (pxN o).size ≤ 2 := by
    rw [pxN_put o (by unfold okN; omega), strOfNums_size]
    unfold putS
    split
    · show 1 ≤ 2; omega
    · rw [if_pos (by omega)]; exact Nat.le_refl _
  omega
end Go.Proofs.YtbbgibekplfacaaDoor.X
/- Fits, both. -/
namespace Go.Proofs.YtbbgibekplfacaaDoor.X
open Go Go.RowKit
/-- Do updates fit? -/
def fitsB (us : List Up) (mtu : Int) : Bool := decide (64 ≤ mtu ∧ mtu ≤ 1400 ∧ mayR 64 1099511627776 us = 0 ∧ ((pxR 64 1099511627776 us).size : Int) ≤ mtu - 40)
set_option maxHeartbeats 1000000 in
theorem fits_1 (a : Option Addr) (len cap : Nat) (mtu : Int) (h : mtu < 64 ∨ 1400 < mtu) (w : World) :
    Calls Tryd.prog 51 #[.slice a len cap, .int .i64 mtu] w fun x w' => x = .returned (.bool false) ∧ Below w.heap.size w w' := by
  rcases h with h | h
  · have q : decide (mtu < 64) = true := decide_eq_true h
    clear h
    go_enter Tryd.func51, Tryd.ntmps51
    go_wp2
    go_ret
    exact ⟨rfl, Below.refl _ _⟩
  · have q : decide (mtu < 64) = false := decide_eq_false (by omega)
    have q2 : decide (1400 < mtu) = true := decide_eq_true h
    clear h
    go_enter Tryd.func51, Tryd.ntmps51
    go_wp2
    go_ret
    exact ⟨rfl, Below.refl _ _⟩
set_option maxHeartbeats 1000000 in
theorem fits_2 (a : Option Addr) (len cap : Nat) (us : List Up) (mtu : Int) (h1 : 64 ≤ mtu) (h2 : mtu ≤ 1400) (w : World) (hd : Wd w) (hu : IsUs w a len us) :
    Calls Tryd.prog 51 #[.slice a len cap, .int .i64 mtu] w fun x w' => x = .returned (.bool (decide (mayR 64 1099511627776 us = 0 ∧ ((pxR 64 1099511627776 us).size : Int) ≤ mtu - 40))) ∧ Below w.heap.size w w' := by
  have q : decide (mtu < 64) = false := decide_eq_false (by omega)
  have q2 : decide (1400 < mtu) = false := decide_eq_false (by omega)
  have HP := Lib.hid (rndput_any 64 1099511627776 a len cap us w hd hu)
  by_cases hm : mayR 64 1099511627776 us = 0
  · have e1 : putR 64 1099511627776 us = pxR 64 1099511627776 us := if_pos hm
    rw [e1, hm] at HP
    by_cases hs : ((pxR 64 1099511627776 us).size : Int) ≤ mtu - 40
    · rw [decide_eq_true (show mayR 64 1099511627776 us = 0 ∧ _ from ⟨hm, hs⟩)]
      generalize pxR 64 1099511627776 us = px at *
      have q3 : decide ((px.size : Int) ≤ mtu - 40) = true := decide_eq_true hs
      clear hm e1 hs
      go_enter Tryd.func51, Tryd.ntmps51
      go_wp2_with fail
      refine HP.out.mono ?_
      rintro x w1 ⟨rfl, hb⟩
      have HB := Lib.hid hb
      clear hb HP
      go_wp2
      go_ret
      exact ⟨rfl, HB.out⟩
    · rw [decide_eq_false (fun e => hs e.2)]
      generalize pxR 64 1099511627776 us = px at *
      have q3 : decide ((px.size : Int) ≤ mtu - 40) = false := decide_eq_false hs
      clear hm e1 hs
      go_enter Tryd.func51, Tryd.ntmps51
      go_wp2_with fail
      refine HP.out.mono ?_
      rintro x w1 ⟨rfl, hb⟩
      have HB := Lib.hid hb
      clear hb HP
      go_wp2
      go_ret
      exact ⟨rfl, HB.out⟩
  · rw [decide_eq_false (fun e => hm e.1)]
    generalize putR 64 1099511627776 us = px at *
    generalize mayR 64 1099511627776 us = me at *
    have q3 : (me == 0) = false := by rw [beq_eq_false_iff_ne]; exact hm
    clear hm
    go_enter Tryd.func51, Tryd.ntmps51
    go_wp2_with fail
    refine HP.out.mono ?_
    rintro x w1 ⟨rfl, hb⟩
    have HB := Lib.hid hb
    clear hb HP
    go_wp2
    go_ret
    exact ⟨rfl, HB.out⟩
theorem rndfits_any (a : Option Addr) (len cap : Nat) (us : List Up) (mtu : Int) (w : World) (hd : Wd w) (hu : IsUs w a len us) :
    Calls Tryd.prog 51 #[.slice a len cap, .int .i64 mtu] w fun x w' => x = .returned (.bool (fitsB us mtu)) ∧ Below w.heap.size w w' := by
  by_cases h : mtu < 64 ∨ 1400 < mtu
  · rw [show fitsB us mtu = false from decide_eq_false (fun e => by omega)]
    exact fits_1 a len cap mtu h w
  · have h1 : 64 ≤ mtu := by omega
    have h2 : mtu ≤ 1400 := by omega
    rw [show fitsB us mtu = decide (mayR 64 1099511627776 us = 0 ∧ ((pxR 64 1099511627776 us).size : Int) ≤ mtu - 40) by unfold fitsB; simp [h1, h2]]
    exact fits_2 a len cap us mtu h1 h2 w hd hu
set_option maxHeartbeats 1000000 in
theorem dfits_1 (a : Option Addr) (len cap : Nat) (mtu : Int) (h : mtu < 64 ∨ 1400 < mtu) (w : World) :
    Calls Tryd.prog 56 #[.slice a len cap, .int .i64 mtu] w fun x w' => x = .returned (.bool false) ∧ Below w.heap.size w w' := by
  have HB := Lib.hid (Joins.below_alloc1 w (.cells #[.int .i64 64, .int .i64 1099511627776, .slice a len cap] 35))
  rcases h with h | h
  · have q : decide (64 ≤ mtu) = false := decide_eq_false (by omega)
    clear h
    go_enter Tryd.func56, Tryd.ntmps56
    go_wp2
    go_ret
    exact ⟨rfl, HB.out⟩
  · have q : decide (64 ≤ mtu) = true := decide_eq_true (by omega)
    have q2 : decide (mtu ≤ 1400) = false := decide_eq_false (by omega)
    clear h
    go_enter Tryd.func56, Tryd.ntmps56
    go_wp2
    go_ret
    exact ⟨rfl, HB.out⟩
set_option maxHeartbeats 1000000 in
theorem dfits_2 (a : Option Addr) (len cap : Nat) (us : List Up) (mtu : Int) (h1 : 64 ≤ mtu) (h2 : mtu ≤ 1400) (w : World) (hu : IsUs w a len us) :
    Calls Tryd.prog 56 #[.slice a len cap, .int .i64 mtu] w fun x w' => x = .returned (.bool (decide (mayR 64 1099511627776 us = 0 ∧ ((pxR 64 1099511627776 us).size : Int) ≤ mtu - 40))) ∧ Below w.heap.size w w' := by
  have q : decide (64 ≤ mtu) = true := decide_eq_true h1
  have q2 : decide (mtu ≤ 1400) = true := decide_eq_true h2
  have hB := Joins.below_alloc1 w (.cells #[.int .i64 64, .int .i64 1099511627776, .slice a len cap] 35)
  have hr := Rb.new w 64 1099511627776 a len cap
  have HM := Lib.hid (docmay_any 64 1099511627776 a len cap us _ (isUs_below hu hB))
  have c0 := hr.c0
  have c1 := hr.c1
  have c2 := hr.c2
  by_cases hm : mayR 64 1099511627776 us = 0
  · have HP := Lib.hid (fun w h => docbytes 64 1099511627776 a len cap us hm w h)
    rw [hm] at HM
    by_cases hs : ((pxR 64 1099511627776 us).size : Int) ≤ mtu - 40
    · rw [decide_eq_true (show mayR 64 1099511627776 us = 0 ∧ _ from ⟨hm, hs⟩)]
      generalize pxR 64 1099511627776 us = px at *
      have q3 : decide ((px.size : Int) ≤ mtu - 40) = true := decide_eq_true hs
      have HR := Lib.hid hr
      have HB := Lib.hid hB
      have HU := Lib.hid hu
      clear hm hs hr hB hu
      go_enter Tryd.func56, Tryd.ntmps56
      go_wp2_with fail
      refine HM.out.mono ?_
      rintro x w1 ⟨rfl, hb⟩
      have hr := HR.out.next hb
      have c0 := hr.c0
      have c1 := hr.c1
      have c2 := hr.c2
      have HB1 := Lib.hid (Below.next HB.out hb)
      clear hb HM hr HR HB
      go_wp2_with fail
      refine (HP.out _ (isUs_below HU.out HB1.out)).mono ?_
      rintro x w2 ⟨rfl, hb⟩
      have HB2 := Lib.hid (Below.next HB1.out hb)
      clear hb HP HB1 c0 c1 c2
      go_wp2
      go_ret
      exact ⟨rfl, HB2.out⟩
    · rw [decide_eq_false (fun e => hs e.2)]
      generalize pxR 64 1099511627776 us = px at *
      have q3 : decide ((px.size : Int) ≤ mtu - 40) = false := decide_eq_false hs
      have HR := Lib.hid hr
      have HB := Lib.hid hB
      have HU := Lib.hid hu
      clear hm hs hr hB hu
      go_enter Tryd.func56, Tryd.ntmps56
      go_wp2_with fail
      refine HM.out.mono ?_
      rintro x w1 ⟨rfl, hb⟩
      have hr := HR.out.next hb
      have c0 := hr.c0
      have c1 := hr.c1
      have c2 := hr.c2
      have HB1 := Lib.hid (Below.next HB.out hb)
      clear hb HM hr HR HB
      go_wp2_with fail
      refine (HP.out _ (isUs_below HU.out HB1.out)).mono ?_
      rintro x w2 ⟨rfl, hb⟩
      have HB2 := Lib.hid (Below.next HB1.out hb)
      clear hb HP HB1 c0 c1 c2
      go_wp2
      go_ret
      exact ⟨rfl, HB2.out⟩
  · rw [decide_eq_false (fun e => hm e.1)]
    generalize mayR 64 1099511627776 us = me at *
    have q3 : (me == 0) = false := by rw [beq_eq_false_iff_ne]; exact hm
    have HB := Lib.hid hB
    clear hm hr hB hu
    go_enter Tryd.func56, Tryd.ntmps56
    go_wp2_with fail
    refine HM.out.mono ?_
    rintro x w1 ⟨rfl, hb⟩
    have HB1 := Lib.hid (Below.next HB.out hb)
    clear hb HM HB c0 c1 c2
    go_wp2
    go_ret
    exact ⟨rfl, HB1.out⟩
theorem docfits_any (a : Option Addr) (len cap : Nat) (us : List Up) (mtu : Int) (w : World) (hu : IsUs w a len us) :
    Calls Tryd.prog 56 #[.slice a len cap, .int .i64 mtu] w fun x w' => x = .returned (.bool (fitsB us mtu)) ∧ Below w.heap.size w w' := by
  by_cases h : mtu < 64 ∨ 1400 < mtu
  · rw [show fitsB us mtu = false from decide_eq_false (fun e => by omega)]
    exact dfits_1 a len cap mtu h w
  · have h1 : 64 ≤ mtu := by omega
    have h2 : mtu ≤ 1400 := by omega
    rw [show fitsB us mtu = decide (mayR 64 1099511627776 us = 0 ∧ ((pxR 64 1099511627776 us).size : Int) ≤ mtu - 40) by unfold fitsB; simp [h1, h2]]
    exact dfits_2 a len cap us mtu h1 h2 w hu
end Go.Proofs.YtbbgibekplfacaaDoor.X
