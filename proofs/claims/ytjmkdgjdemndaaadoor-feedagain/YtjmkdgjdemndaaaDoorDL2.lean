/- The walk of FeedAgain. -/
import Derived.Test.YtjmkdgjdemndaaaDoorD3
namespace Go.Proofs.YtjmkdgjdemndaaaDoor
open Go Go.RowKit
set_option maxRecDepth 20000
set_option maxHeartbeats 16000000 in
theorem walkAgain (a : Option Addr) (len cap : Nat) (rs : List Rn) (x : Int) (w : World) (hd : X.Wd w) (h : IsRs w a len rs) :
    Calls Tryd.prog 5 #[.slice a len cap, .int .i64 x] w fun e w' => e = .returned (.bool true) ∧ Below w.heap.size w w' := by
  have HD := Lib.hid hd
  have H := Lib.hid h
  have hsz := h.size
  clear h hd
  go_enter Tryd.func5, Tryd.ntmps5
  go_wp2_with fail
  refine (cnew_any 3 w.heap.size w (Nat.le_refl _)).mono ?_
  rintro e w1 ⟨rfl, hj, hb⟩
  have HJ0 := Lib.hid hj
  have HB0 := Lib.hid hb
  clear hj hb
  go_wp2_with fail
  refine (K.lnew_any 1 16 16 true w1).mono ?_
  rintro e w2 ⟨rfl, ⟨bs, br, hl⟩, hb⟩
  have hlo : w.heap.size ≤ w1.heap.size := HB0.out.size
  have HL0 := Lib.hid (hl.lower hlo)
  have HJ1 := Lib.hid (HJ0.out.next hb)
  have HB1 := Lib.hid (Below.next HB0.out hb)
  clear hl hb HJ0 HB0 hlo
  generalize w1.heap.size = b at *
  go_wp2_with fail
  refine (fnew_any w2).mono ?_
  rintro e w3 ⟨rfl, hf, hb⟩
  have H1 : Hid (Fj w w3 w.heap.size (Jf w.heap.size (.slice none 0 0) fun _ => False) (clP 3) [] b bs br ⟨1, 16, 16, true, 0, [], 0, []⟩ w2.heap.size 0) := Lib.hid ⟨Below.next HB1.out hb, HJ1.out.next hb, ⟨_, _, HL0.out.next hb⟩, hf, HB1.out.size⟩
  rw [show clP 3 = 3 from rfl] at H1
  clear hf hb HJ1 HL0 HB1
  generalize Jf w.heap.size (.slice none 0 0) (fun _ => False) = F0 at H1
  generalize w2.heap.size = fb at *
  by_cases hg : gRs rs
  · go_wp2_with fail
    refine (awake_any _ (HD.out.below H1.out.bel)).mono ?_
    rintro e w4 ⟨rfl, hb⟩
    have H2 := Lib.hid (H1.out.next hb)
    clear hb H1
    go_wp2_with fail
    refine (greatRs_yes a len cap rs hg _ (isRs_below H.out H2.out.bel)).mono ?_
    rintro e w5 ⟨rfl, hb⟩
    have H3 := Lib.hid (H2.out.next hb)
    clear hb H2
    go_wp2_with fail
    refine (awake_any _ (HD.out.below H3.out.bel)).mono ?_
    rintro e w6 ⟨rfl, hb⟩
    have H4 := Lib.hid (H3.out.next hb)
    clear hb H3
    go_wp2
    go_ret
    exact ⟨rfl, H4.out.bel⟩
  obtain ⟨hl40, hgl⟩ := gRs_at hg
  have HG := Lib.hid hgl
  have HNG := fun w h => Lib.hid (greatRs_no a len cap rs hg w h)
  have hlen : len ≤ 40 := by omega
  clear hgl hl40 hg
  go_wp2_with fail
  refine (awake_any _ (HD.out.below H1.out.bel)).mono ?_
  rintro e w4 ⟨rfl, hb⟩
  have H2 := Lib.hid (H1.out.next hb)
  clear hb H1
  go_wp2_with fail
  refine (HNG _ (isRs_below H.out H2.out.bel)).out.mono ?_
  rintro e w5 ⟨rfl, hb⟩
  have H3 := Lib.hid (H2.out.next hb)
  clear hb H2 HNG
  by_cases hx1 : x < 2
  · have k1 : decide (x < 2) = true := decide_eq_true hx1
    clear hx1
    go_wp2_with fail
    refine (awake_any _ (HD.out.below H3.out.bel)).mono ?_
    rintro e w6 ⟨rfl, hb⟩
    have H4 := Lib.hid (H3.out.next hb)
    clear hb H3
    go_wp2
    go_ret
    exact ⟨rfl, H4.out.bel⟩
  have k1 : decide (x < 2) = false := decide_eq_false hx1
  by_cases hx2 : 1099511627776 < x
  · have k2 : decide (1099511627776 < x) = true := decide_eq_true hx2
    clear hx1 hx2
    go_wp2_with fail
    refine (awake_any _ (HD.out.below H3.out.bel)).mono ?_
    rintro e w6 ⟨rfl, hb⟩
    have H4 := Lib.hid (H3.out.next hb)
    clear hb H3
    go_wp2
    go_ret
    exact ⟨rfl, H4.out.bel⟩
  have k2 : decide (1099511627776 < x) = false := decide_eq_false hx2
  go_wp2_with fail
  go_loopw [47] (fun v wr => ∃ k : Nat, k ≤ len ∧ v = .int .i64 k ∧ ∃ F L, L = sofar 3 rs k ∧ Fj w wr w.heap.size F 3 L b bs br ⟨1, 16, 16, true, 0, [], 0, []⟩ fb 0) (fun v _ => len - (intOf v).toNat)
  case atStart => exact ⟨0, Nat.zero_le _, rfl, F0, [], rfl, H3.out⟩
  case round =>
    obtain ⟨k, hk, rfl, F, L, hL, hp⟩ := hrel
    clear H3
    by_cases hlt : k < len
    · obtain ⟨gb, off, rfl, d0, d1, d2, hru⟩ := rcells_of H.out hp.bel hlt
      obtain ⟨_, hsm⟩ := HG.out k (by omega)
      have hru2 := (hru.below hp.bel).below (Joins.below_alloc1 wr (.cells #[.int .i64 (rs.getD k rn0).o, .int .i64 (rs.getD k rn0).n, .slice (rs.getD k rn0).a (rs.getD k rn0).len (rs.getD k rn0).cap] 43))
      have hst := sofar_step 3 (rs := rs) (k := k) (by omega)
      have hsl := sofar_len 3 rs k
      rw [← hL] at hst hsl
      have HPA := Lib.hid (hp.next (Joins.below_alloc1 wr (.cells #[.int .i64 (rs.getD k rn0).o, .int .i64 (rs.getD k rn0).n, .slice (rs.getD k rn0).a (rs.getD k rn0).len (rs.getD k rn0).cap] 43)))
      generalize rs.getD k rn0 = r at *
      obtain ⟨ro, rn, ra, rl, rc, rus⟩ := r
      simp only at d0 d1 d2 hsm hru2 HPA
      have HST := Lib.hid hst
      have HRU := Lib.hid hru2
      have HSM := Lib.hid hsm
      have h8 := Rb.new wr ro rn ra rl rc
      have e0 := h8.c0
      have e1 := h8.c1
      have e2 := h8.c2
      have hL1000 : L.length ≤ 1000 := by omega
      clear hru hru2 hst hp hL hsm h8 hsl
      go_wp2_with fail
      refine (cadd_any hL1000 ⟨ro, rn, ra, rl, rc, rus⟩ HSM.out _ HRU.out HPA.out.lg).mono ?_
      rintro e w6 ⟨rfl, F', hc⟩
      have HQ := Lib.hid (HPA.out.add hc)
      clear hc HPA e0 e1 e2
      go_wp2
      go_roundw
      case rel => exact ⟨k + 1, by omega, by go_num, F', _, HST.out.symm, HQ.out⟩
      case measure => simp [intOf]; omega
    · obtain rfl : k = len := by omega
      have hL40 : L.length ≤ 40 := by rw [hL]; have := sofar_len 3 rs k; omega
      clear hL
      have H1 := Lib.hid hp
      clear hp
      have hmin := pump_min L ⟨1, 16, 16, true, 0, [], 0, []⟩ (by simp only [List.length_nil]; have := win_in 16; omega) (by simp only [List.length_nil]; omega)
      have hmin2 := pump_min L ⟨x, 16, 16, true, 0, [], 0, []⟩ (by simp only [List.length_nil]; have := win_in 16; omega) (by simp only [List.length_nil]; omega)
      have his := pump_is L ⟨1, 16, 16, true, 0, [], 0, []⟩
      have his2 := pump_is L ⟨x, 16, 16, true, 0, [], 0, []⟩
      have hw16 : K.winOf 16 = 16 := by decide
      simp only [List.length_nil, hw16] at hmin hmin2
      have hab : pumpN ⟨x, 16, 16, true, 0, [], 0, []⟩ L = pumpN ⟨1, 16, 16, true, 0, [], 0, []⟩ L := by omega
      rw [hab] at his2
      obtain ⟨n, hn⟩ : ∃ n, pumpN ⟨1, 16, 16, true, 0, [], 0, []⟩ L = n := ⟨_, rfl⟩
      rw [hn] at hmin hab his his2
      obtain ⟨ds, hds⟩ : ∃ ds, (L.take n).map pxC = ds := ⟨_, rfl⟩
      simp only [List.nil_append, hds] at his his2
      obtain ⟨M, hM⟩ : ∃ M, L.length = M := ⟨_, rfl⟩
      have hL1000 : L.length ≤ 1000 := by omega
      rw [hM] at hmin
      have hq : ((n : Int) != min (M : Int) 16) = false := by
        rw [bne_eq_false_iff_eq]
        omega
      have hpas : K.En.anew ⟨1, 16, 16, true, 0, ds, 0, []⟩ (x, 0, 0, ⟨#[]⟩) = true := by
        unfold K.En.anew
        rw [decide_eq_true (show (1 : Int) < x by omega)]
        rfl
      have hhear : K.En.hear ⟨1, 16, 16, true, 0, ds, 0, []⟩ (x, 0, 0, ⟨#[]⟩) = ⟨x, 16, 16, true, 0, [], 0, []⟩ := by
        unfold K.En.hear
        rw [if_neg (by simp; omega), if_pos (by simp only; omega)]
        unfold K.En.fresh
        rw [K.take_zero]
        have hc : K.clampE x = x := by unfold K.clampE; omega
        simp only [hc]
        rfl
      obtain ⟨m, hm⟩ : ∃ m, (gF 1 ds).length = m := ⟨_, rfl⟩
      have hm2 : (gF x ds).length = m := by rw [gF_len, ← gF_len 1, hm]
      have HG1 : Hid (K.En.frames ⟨1, 16, 16, true, 0, ds, 0, []⟩ = gF 1 ds) := Lib.hid (frames_gF (by decide))
      have HG2 : Hid (K.En.frames ⟨x, 16, 16, true, 0, ds, 0, []⟩ = gF x ds) := Lib.hid (frames_gF (by omega))
      have HE : Hid (pumpE ⟨1, 16, 16, true, 0, [], 0, []⟩ (L.drop 0) = ⟨1, 16, 16, true, 0, ds, 0, []⟩) := Lib.hid his
      have HN : Hid (pumpN ⟨1, 16, 16, true, 0, [], 0, []⟩ (L.drop 0) = n) := Lib.hid hn
      have HE2 : Hid (pumpE ⟨x, 16, 16, true, 0, [], 0, []⟩ (L.drop 0) = ⟨x, 16, 16, true, 0, ds, 0, []⟩) := Lib.hid his2
      have HN2 : Hid (pumpN ⟨x, 16, 16, true, 0, [], 0, []⟩ (L.drop 0) = n) := Lib.hid hab
      have HM := Lib.hid hM
      have HM1 := Lib.hid hm
      have HM2 := Lib.hid hm2
      have HPAS := Lib.hid hpas
      have HHEAR := Lib.hid hhear
      have HL1000 := Lib.hid hL1000
      have HMI : Hid (m ≤ 100) := Lib.hid (by rw [← hm, gF_len, ← hds]; split <;> simp <;> omega)
      have hCL := fun W h => Lib.hid (clen_any (L := L) (B := w.heap.size) (b := w.heap.size) (F := F) (c := 3) W h)
      rw [hM] at hCL
      have HCL := Lib.hid hCL
      have HGA := Lib.hid (fun i hi => gF_at 1 x ds i hi)
      clear hmin hmin2 his his2 hw16 hab hn hds hM hL1000 hpas hhear hm hm2 hCL hL40
      go_wp2_with fail
      refine (pump_any HE.out HN.out (Nat.zero_le _) HL1000.out HD.out _ H1.out).mono ?_
      rintro e w6 ⟨rfl, h, _⟩
      have H2 := Lib.hid h
      clear h H1
      go_wp2_with fail
      refine (fj_frames HG1.out HM1.out _ H2.out).mono ?_
      rintro e w7 ⟨a1, c1, rfl, hr, hb⟩
      have HR := Lib.hid hr
      have H3 := Lib.hid (H2.out.next hb)
      clear hr hb H2
      go_wp2_with fail
      refine (fj_hear (f := (x, 0, 0, ⟨#[]⟩)) HHEAR.out HPAS.out (show (0 : Nat) ≤ 1000 by decide) (Nat.zero_le _) _ H3.out).mono ?_
      rintro e w8 ⟨rfl, ⟨bs2, br2, h⟩, ho⟩
      have HR2 := Lib.hid (HR.out.othF ho)
      have H4 := Lib.hid h
      clear h ho H3 HR
      go_wp2_with fail
      refine (freset_any _ H4.out.fd).mono ?_
      rintro e w9 ⟨rfl, rfl⟩
      have HR3 := Lib.hid (HR2.out.othF (.set H4.out.fd 0 (.int .i64 0)))
      have H5 := Lib.hid (H4.out.put 0)
      clear H4 HR2
      go_wp2_with fail
      refine (pump_any HE2.out HN2.out (Nat.zero_le _) HL1000.out HD.out _ H5.out).mono ?_
      rintro e w10 ⟨rfl, h, ho⟩
      have HR4 := Lib.hid (HR3.out.othF ho)
      have H6 := Lib.hid h
      clear h ho H5 HR3
      go_wp2_with fail
      refine (fj_frames HG2.out HM2.out _ H6.out).mono ?_
      rintro e w11 ⟨a2, c2, rfl, hr, hb⟩
      have HS1 := Lib.hid ((HR4.out.below hb).isF HM1.out.symm).1
      have HS2 := Lib.hid (hr.isF HM2.out.symm).1
      have H7 := Lib.hid (H6.out.next hb)
      clear hr hb H6 HR4
      go_wp2_with fail
      refine (HCL.out _ H7.out.lg).out.mono ?_
      rintro e w12 ⟨rfl, rfl⟩
      go_wp2_with fail
      clear hq
      go_loopw [93] (fun v wr => ∃ i : Nat, i ≤ m ∧ v = .int .i64 i ∧ Below w12.heap.size w12 wr) (fun v _ => m - (intOf v).toNat)
      case atStart => exact ⟨0, Nat.zero_le _, rfl, Below.refl _ _⟩
      case round =>
        obtain ⟨i, hi, rfl, hbel⟩ := hrel
        have HBEL := Lib.hid hbel
        clear hbel
        have hmi := HMI.out
        by_cases hlt : i < m
        · obtain ⟨b1, off1, e1, _, hf1⟩ := (K.fsAt_below HS1.out HBEL.out).lies (by omega)
          obtain ⟨b2, off2, e2, _, hf2⟩ := (K.fsAt_below HS2.out HBEL.out).lies (by omega)
          subst e1 e2
          obtain ⟨ss, dd, g1, g2⟩ := HGA.out i (by rw [HM1.out]; exact hlt)
          have f1 := hf1 i hlt
          have f2 := hf2 i hlt
          rw [g1] at f1
          rw [g2] at f2
          have z0 := f1.d
          have z1 := f1.s
          have z2 := f2.d
          have z3 := f2.s
          have z4 := f2.e
          have hqd := eq_yes dd
          simp only at z0 z1 z2 z3 z4
          clear hf1 hf2 f1 f2 g1 g2
          go_wp2_with fail
          refine wp_region_held_drew (S := fun w' => w'.cell? ⟨b1, off1 + i * 4 + 3, none⟩ = some (.string dd) ∧ w'.cell? ⟨b1, off1 + i * 4 + 1, none⟩ = some (.int .i64 ss) ∧ w'.cell? ⟨b2, off2 + i * 4 + 3, none⟩ = some (.string dd) ∧ w'.cell? ⟨b2, off2 + i * 4 + 1, none⟩ = some (.int .i64 ss) ∧ w'.cell? ⟨b2, off2 + i * 4, none⟩ = some (.int .i64 x)) (by kernel_rfl) ?_ (fun hH => ?_)
          · exact ⟨z0, z1, z2, z3, z4⟩
          refine wpAnyH_take (i := 0) (oi := { dst := some 96, op := Go.Op.move (Go.Operand.tmp 11), type := 54, pos := "law.go:140", after := #[], guard := none }) (v := ?_) rfl (by kernel_rfl) (by kernel_rfl) (by kernel_rfl) (fun _ _ _ h => h) (Or.inl ⟨by rfl, ?_⟩) (by assumption) ?_
          rotate_left
          · intro w hSw
            try dsimp only at hSw
            obtain ⟨q0, q1, q2, q3, q4⟩ := hSw
            go_simp
            all_goals with_reducible rfl
          try simp only [Act.put, List.setIfInBounds_toArray, List.set_cons_zero, List.set_cons_succ]
          refine wpAnyH_take (i := 1) (oi := { dst := some 97, op := Go.Op.move (Go.Operand.tmp 14), type := 3, pos := "law.go:140", after := #[], guard := none }) (v := ?_) rfl (by kernel_rfl) (by kernel_rfl) (by kernel_rfl) (fun _ _ _ h => h) (Or.inl ⟨by rfl, ?_⟩) (by assumption) ?_
          rotate_left
          · intro w hSw
            try dsimp only at hSw
            obtain ⟨q0, q1, q2, q3, q4⟩ := hSw
            go_simp
            all_goals with_reducible rfl
          try simp only [Act.put, List.setIfInBounds_toArray, List.set_cons_zero, List.set_cons_succ]
          refine wpAnyH_take (i := 2) (oi := { dst := some 98, op := Go.Op.indexAddr 54 (Go.Operand.tmp 96) (Go.Operand.tmp 97), type := 0, pos := "law.go:140", after := #[{ on := 0, ground := Go.Ground.data }, { on := 1, ground := Go.Ground.data }], guard := none }) (v := ?_) rfl (by kernel_rfl) (by kernel_rfl) (by kernel_rfl) (fun _ _ _ h => h) (Or.inl ⟨by rfl, ?_⟩) (by assumption) ?_
          rotate_left
          · intro w hSw
            try dsimp only at hSw
            obtain ⟨q0, q1, q2, q3, q4⟩ := hSw
            go_simp
            all_goals with_reducible rfl
          try simp only [Act.put, List.setIfInBounds_toArray, List.set_cons_zero, List.set_cons_succ]
          refine wpAnyH_take (i := 3) (oi := { dst := some 99, op := Go.Op.fieldAddr 40 (Go.Operand.tmp 98) 3, type := 0, pos := "law.go:140", after := #[{ on := 2, ground := Go.Ground.data }], guard := none }) (v := ?_) rfl (by kernel_rfl) (by kernel_rfl) (by kernel_rfl) (fun _ _ _ h => h) (Or.inl ⟨by rfl, ?_⟩) (by assumption) ?_
          rotate_left
          · intro w hSw
            try dsimp only at hSw
            obtain ⟨q0, q1, q2, q3, q4⟩ := hSw
            go_simp
            all_goals with_reducible rfl
          try simp only [Act.put, List.setIfInBounds_toArray, List.set_cons_zero, List.set_cons_succ]
          refine wpAnyH_take (i := 4) (oi := { dst := some 100, op := Go.Op.load 9 (Go.Operand.tmp 99), type := 9, pos := "law.go:140", after := #[{ on := 3, ground := Go.Ground.data }], guard := none }) (v := ?_) rfl (by kernel_rfl) (by kernel_rfl) (by kernel_rfl) (fun _ _ _ h => h) (Or.inl ⟨by rfl, ?_⟩) (by assumption) ?_
          rotate_left
          · intro w hSw
            try dsimp only at hSw
            obtain ⟨q0, q1, q2, q3, q4⟩ := hSw
            go_simp
            all_goals with_reducible rfl
          try simp only [Act.put, List.setIfInBounds_toArray, List.set_cons_zero, List.set_cons_succ]
          refine wpAnyH_take (i := 5) (oi := { dst := some 101, op := Go.Op.move (Go.Operand.tmp 13), type := 54, pos := "law.go:140", after := #[], guard := none }) (v := ?_) rfl (by kernel_rfl) (by kernel_rfl) (by kernel_rfl) (fun _ _ _ h => h) (Or.inl ⟨by rfl, ?_⟩) (by assumption) ?_
          rotate_left
          · intro w hSw
            try dsimp only at hSw
            obtain ⟨q0, q1, q2, q3, q4⟩ := hSw
            go_simp
            all_goals with_reducible rfl
          try simp only [Act.put, List.setIfInBounds_toArray, List.set_cons_zero, List.set_cons_succ]
          refine wpAnyH_take (i := 6) (oi := { dst := some 102, op := Go.Op.move (Go.Operand.tmp 14), type := 3, pos := "law.go:140", after := #[], guard := none }) (v := ?_) rfl (by kernel_rfl) (by kernel_rfl) (by kernel_rfl) (fun _ _ _ h => h) (Or.inl ⟨by rfl, ?_⟩) (by assumption) ?_
          rotate_left
          · intro w hSw
            try dsimp only at hSw
            obtain ⟨q0, q1, q2, q3, q4⟩ := hSw
            go_simp
            all_goals with_reducible rfl
          try simp only [Act.put, List.setIfInBounds_toArray, List.set_cons_zero, List.set_cons_succ]
          refine wpAnyH_take (i := 7) (oi := { dst := some 103, op := Go.Op.indexAddr 54 (Go.Operand.tmp 101) (Go.Operand.tmp 102), type := 0, pos := "law.go:140", after := #[{ on := 5, ground := Go.Ground.data }, { on := 6, ground := Go.Ground.data }], guard := none }) (v := ?_) rfl (by kernel_rfl) (by kernel_rfl) (by kernel_rfl) (fun _ _ _ h => h) (Or.inl ⟨by rfl, ?_⟩) (by assumption) ?_
          rotate_left
          · intro w hSw
            try dsimp only at hSw
            obtain ⟨q0, q1, q2, q3, q4⟩ := hSw
            go_simp
            all_goals with_reducible rfl
          try simp only [Act.put, List.setIfInBounds_toArray, List.set_cons_zero, List.set_cons_succ]
          refine wpAnyH_take (i := 8) (oi := { dst := some 104, op := Go.Op.fieldAddr 40 (Go.Operand.tmp 103) 3, type := 0, pos := "law.go:140", after := #[{ on := 7, ground := Go.Ground.data }], guard := none }) (v := ?_) rfl (by kernel_rfl) (by kernel_rfl) (by kernel_rfl) (fun _ _ _ h => h) (Or.inl ⟨by rfl, ?_⟩) (by assumption) ?_
          rotate_left
          · intro w hSw
            try dsimp only at hSw
            obtain ⟨q0, q1, q2, q3, q4⟩ := hSw
            go_simp
            all_goals with_reducible rfl
          try simp only [Act.put, List.setIfInBounds_toArray, List.set_cons_zero, List.set_cons_succ]
          refine wpAnyH_take (i := 9) (oi := { dst := some 105, op := Go.Op.load 9 (Go.Operand.tmp 104), type := 9, pos := "law.go:140", after := #[{ on := 8, ground := Go.Ground.data }], guard := none }) (v := ?_) rfl (by kernel_rfl) (by kernel_rfl) (by kernel_rfl) (fun _ _ _ h => h) (Or.inl ⟨by rfl, ?_⟩) (by assumption) ?_
          rotate_left
          · intro w hSw
            try dsimp only at hSw
            obtain ⟨q0, q1, q2, q3, q4⟩ := hSw
            go_simp
            all_goals with_reducible rfl
          try simp only [Act.put, List.setIfInBounds_toArray, List.set_cons_zero, List.set_cons_succ]
          refine wpAnyH_take (i := 10) (oi := { dst := some 106, op := Go.Op.binOp Go.BinOp.neq 9 (Go.Operand.tmp 100) (Go.Operand.tmp 105) 9, type := 4, pos := "law.go:140", after := #[{ on := 4, ground := Go.Ground.data }, { on := 9, ground := Go.Ground.data }], guard := none }) (v := ?_) rfl (by kernel_rfl) (by kernel_rfl) (by kernel_rfl) (fun _ _ _ h => h) (Or.inl ⟨by rfl, ?_⟩) (by assumption) ?_
          rotate_left
          · intro w hSw
            try dsimp only at hSw
            obtain ⟨q0, q1, q2, q3, q4⟩ := hSw
            go_simp
            all_goals with_reducible rfl
          try simp only [Act.put, List.setIfInBounds_toArray, List.set_cons_zero, List.set_cons_succ]
          refine wpAnyH_take (i := 11) (oi := { dst := some 107, op := Go.Op.move (Go.Operand.tmp 106), type := 4, pos := "law.go:140", after := #[{ on := 10, ground := Go.Ground.data }], guard := none }) (v := ?_) rfl (by kernel_rfl) (by kernel_rfl) (by kernel_rfl) (fun _ _ _ h => h) (Or.inl ⟨by rfl, ?_⟩) (by assumption) ?_
          rotate_left
          · intro w hSw
            try dsimp only at hSw
            obtain ⟨q0, q1, q2, q3, q4⟩ := hSw
            go_simp
            all_goals with_reducible rfl
          try simp only [Act.put, List.setIfInBounds_toArray, List.set_cons_zero, List.set_cons_succ]
          refine wpAnyH_take (i := 12) (oi := { dst := some 108, op := Go.Op.move (Go.Operand.tmp 11), type := 54, pos := "law.go:140", after := #[{ on := 11, ground := Go.Ground.guard }], guard := some (11, false) }) (v := ?_) rfl (by kernel_rfl) (by kernel_rfl) (by kernel_rfl) (fun _ _ _ h => h) (Or.inl ⟨by rfl, ?_⟩) (by assumption) ?_
          rotate_left
          · intro w hSw
            try dsimp only at hSw
            obtain ⟨q0, q1, q2, q3, q4⟩ := hSw
            go_simp
            all_goals with_reducible rfl
          try simp only [Act.put, List.setIfInBounds_toArray, List.set_cons_zero, List.set_cons_succ]
          refine wpAnyH_take (i := 13) (oi := { dst := some 109, op := Go.Op.move (Go.Operand.tmp 14), type := 3, pos := "law.go:140", after := #[{ on := 11, ground := Go.Ground.guard }], guard := some (11, false) }) (v := ?_) rfl (by kernel_rfl) (by kernel_rfl) (by kernel_rfl) (fun _ _ _ h => h) (Or.inl ⟨by rfl, ?_⟩) (by assumption) ?_
          rotate_left
          · intro w hSw
            try dsimp only at hSw
            obtain ⟨q0, q1, q2, q3, q4⟩ := hSw
            go_simp
            all_goals with_reducible rfl
          try simp only [Act.put, List.setIfInBounds_toArray, List.set_cons_zero, List.set_cons_succ]
          refine wpAnyH_take (i := 14) (oi := { dst := some 110, op := Go.Op.indexAddr 54 (Go.Operand.tmp 108) (Go.Operand.tmp 109), type := 0, pos := "law.go:140", after := #[{ on := 12, ground := Go.Ground.data }, { on := 13, ground := Go.Ground.data }, { on := 11, ground := Go.Ground.guard }], guard := some (11, false) }) (v := ?_) rfl (by kernel_rfl) (by kernel_rfl) (by kernel_rfl) (fun _ _ _ h => h) (Or.inl ⟨by rfl, ?_⟩) (by assumption) ?_
          rotate_left
          · intro w hSw
            try dsimp only at hSw
            obtain ⟨q0, q1, q2, q3, q4⟩ := hSw
            go_simp
            all_goals with_reducible rfl
          try simp only [Act.put, List.setIfInBounds_toArray, List.set_cons_zero, List.set_cons_succ]
          refine wpAnyH_take (i := 15) (oi := { dst := some 111, op := Go.Op.fieldAddr 40 (Go.Operand.tmp 110) 1, type := 0, pos := "law.go:140", after := #[{ on := 14, ground := Go.Ground.data }, { on := 11, ground := Go.Ground.guard }], guard := some (11, false) }) (v := ?_) rfl (by kernel_rfl) (by kernel_rfl) (by kernel_rfl) (fun _ _ _ h => h) (Or.inl ⟨by rfl, ?_⟩) (by assumption) ?_
          rotate_left
          · intro w hSw
            try dsimp only at hSw
            obtain ⟨q0, q1, q2, q3, q4⟩ := hSw
            go_simp
            all_goals with_reducible rfl
          try simp only [Act.put, List.setIfInBounds_toArray, List.set_cons_zero, List.set_cons_succ]
          refine wpAnyH_take (i := 16) (oi := { dst := some 112, op := Go.Op.load 3 (Go.Operand.tmp 111), type := 3, pos := "law.go:140", after := #[{ on := 15, ground := Go.Ground.data }, { on := 11, ground := Go.Ground.guard }], guard := some (11, false) }) (v := ?_) rfl (by kernel_rfl) (by kernel_rfl) (by kernel_rfl) (fun _ _ _ h => h) (Or.inl ⟨by rfl, ?_⟩) (by assumption) ?_
          rotate_left
          · intro w hSw
            try dsimp only at hSw
            obtain ⟨q0, q1, q2, q3, q4⟩ := hSw
            go_simp
            all_goals with_reducible rfl
          try simp only [Act.put, List.setIfInBounds_toArray, List.set_cons_zero, List.set_cons_succ]
          refine wpAnyH_take (i := 17) (oi := { dst := some 113, op := Go.Op.move (Go.Operand.tmp 13), type := 54, pos := "law.go:140", after := #[{ on := 11, ground := Go.Ground.guard }], guard := some (11, false) }) (v := ?_) rfl (by kernel_rfl) (by kernel_rfl) (by kernel_rfl) (fun _ _ _ h => h) (Or.inl ⟨by rfl, ?_⟩) (by assumption) ?_
          rotate_left
          · intro w hSw
            try dsimp only at hSw
            obtain ⟨q0, q1, q2, q3, q4⟩ := hSw
            go_simp
            all_goals with_reducible rfl
          try simp only [Act.put, List.setIfInBounds_toArray, List.set_cons_zero, List.set_cons_succ]
          refine wpAnyH_take (i := 18) (oi := { dst := some 114, op := Go.Op.move (Go.Operand.tmp 14), type := 3, pos := "law.go:140", after := #[{ on := 11, ground := Go.Ground.guard }], guard := some (11, false) }) (v := ?_) rfl (by kernel_rfl) (by kernel_rfl) (by kernel_rfl) (fun _ _ _ h => h) (Or.inl ⟨by rfl, ?_⟩) (by assumption) ?_
          rotate_left
          · intro w hSw
            try dsimp only at hSw
            obtain ⟨q0, q1, q2, q3, q4⟩ := hSw
            go_simp
            all_goals with_reducible rfl
          try simp only [Act.put, List.setIfInBounds_toArray, List.set_cons_zero, List.set_cons_succ]
          refine wpAnyH_take (i := 19) (oi := { dst := some 115, op := Go.Op.indexAddr 54 (Go.Operand.tmp 113) (Go.Operand.tmp 114), type := 0, pos := "law.go:140", after := #[{ on := 17, ground := Go.Ground.data }, { on := 18, ground := Go.Ground.data }, { on := 11, ground := Go.Ground.guard }], guard := some (11, false) }) (v := ?_) rfl (by kernel_rfl) (by kernel_rfl) (by kernel_rfl) (fun _ _ _ h => h) (Or.inl ⟨by rfl, ?_⟩) (by assumption) ?_
          rotate_left
          · intro w hSw
            try dsimp only at hSw
            obtain ⟨q0, q1, q2, q3, q4⟩ := hSw
            go_simp
            all_goals with_reducible rfl
          try simp only [Act.put, List.setIfInBounds_toArray, List.set_cons_zero, List.set_cons_succ]
          refine wpAnyH_take (i := 20) (oi := { dst := some 116, op := Go.Op.fieldAddr 40 (Go.Operand.tmp 115) 1, type := 0, pos := "law.go:140", after := #[{ on := 19, ground := Go.Ground.data }, { on := 11, ground := Go.Ground.guard }], guard := some (11, false) }) (v := ?_) rfl (by kernel_rfl) (by kernel_rfl) (by kernel_rfl) (fun _ _ _ h => h) (Or.inl ⟨by rfl, ?_⟩) (by assumption) ?_
          rotate_left
          · intro w hSw
            try dsimp only at hSw
            obtain ⟨q0, q1, q2, q3, q4⟩ := hSw
            go_simp
            all_goals with_reducible rfl
          try simp only [Act.put, List.setIfInBounds_toArray, List.set_cons_zero, List.set_cons_succ]
          refine wpAnyH_take (i := 21) (oi := { dst := some 117, op := Go.Op.load 3 (Go.Operand.tmp 116), type := 3, pos := "law.go:140", after := #[{ on := 20, ground := Go.Ground.data }, { on := 11, ground := Go.Ground.guard }], guard := some (11, false) }) (v := ?_) rfl (by kernel_rfl) (by kernel_rfl) (by kernel_rfl) (fun _ _ _ h => h) (Or.inl ⟨by rfl, ?_⟩) (by assumption) ?_
          rotate_left
          · intro w hSw
            try dsimp only at hSw
            obtain ⟨q0, q1, q2, q3, q4⟩ := hSw
            go_simp
            all_goals with_reducible rfl
          try simp only [Act.put, List.setIfInBounds_toArray, List.set_cons_zero, List.set_cons_succ]
          refine wpAnyH_take (i := 22) (oi := { dst := some 118, op := Go.Op.binOp Go.BinOp.neq 3 (Go.Operand.tmp 112) (Go.Operand.tmp 117) 3, type := 4, pos := "law.go:140", after := #[{ on := 16, ground := Go.Ground.data }, { on := 21, ground := Go.Ground.data }, { on := 11, ground := Go.Ground.guard }], guard := some (11, false) }) (v := ?_) rfl (by kernel_rfl) (by kernel_rfl) (by kernel_rfl) (fun _ _ _ h => h) (Or.inl ⟨by rfl, ?_⟩) (by assumption) ?_
          rotate_left
          · intro w hSw
            try dsimp only at hSw
            obtain ⟨q0, q1, q2, q3, q4⟩ := hSw
            go_simp
            all_goals with_reducible rfl
          try simp only [Act.put, List.setIfInBounds_toArray, List.set_cons_zero, List.set_cons_succ]
          refine wpAnyH_take (i := 23) (oi := { dst := some 119, op := Go.Op.pick (Go.Operand.tmp 107) (Go.Operand.const (Go.Value.bool true)) (Go.Operand.tmp 118), type := 4, pos := "law.go:140", after := #[{ on := 11, ground := Go.Ground.data }, { on := 22, ground := Go.Ground.data }], guard := none }) (v := ?_) rfl (by kernel_rfl) (by kernel_rfl) (by kernel_rfl) (fun _ _ _ h => h) (Or.inl ⟨by rfl, ?_⟩) (by assumption) ?_
          rotate_left
          · intro w hSw
            try dsimp only at hSw
            obtain ⟨q0, q1, q2, q3, q4⟩ := hSw
            go_simp
            all_goals with_reducible rfl
          try simp only [Act.put, List.setIfInBounds_toArray, List.set_cons_zero, List.set_cons_succ]
          refine wpAnyH_take (i := 24) (oi := { dst := some 120, op := Go.Op.move (Go.Operand.tmp 119), type := 4, pos := "law.go:140", after := #[{ on := 23, ground := Go.Ground.data }, { on := 11, ground := Go.Ground.chain }], guard := none }) (v := ?_) rfl (by kernel_rfl) (by kernel_rfl) (by kernel_rfl) (fun _ _ _ h => h) (Or.inl ⟨by rfl, ?_⟩) (by assumption) ?_
          rotate_left
          · intro w hSw
            try dsimp only at hSw
            obtain ⟨q0, q1, q2, q3, q4⟩ := hSw
            go_simp
            all_goals with_reducible rfl
          try simp only [Act.put, List.setIfInBounds_toArray, List.set_cons_zero, List.set_cons_succ]
          refine wpAnyH_take (i := 25) (oi := { dst := some 121, op := Go.Op.move (Go.Operand.tmp 13), type := 54, pos := "law.go:140", after := #[{ on := 24, ground := Go.Ground.guard }], guard := some (24, false) }) (v := ?_) rfl (by kernel_rfl) (by kernel_rfl) (by kernel_rfl) (fun _ _ _ h => h) (Or.inl ⟨by rfl, ?_⟩) (by assumption) ?_
          rotate_left
          · intro w hSw
            try dsimp only at hSw
            obtain ⟨q0, q1, q2, q3, q4⟩ := hSw
            go_simp
            all_goals with_reducible rfl
          try simp only [Act.put, List.setIfInBounds_toArray, List.set_cons_zero, List.set_cons_succ]
          refine wpAnyH_take (i := 26) (oi := { dst := some 122, op := Go.Op.move (Go.Operand.tmp 14), type := 3, pos := "law.go:140", after := #[{ on := 24, ground := Go.Ground.guard }], guard := some (24, false) }) (v := ?_) rfl (by kernel_rfl) (by kernel_rfl) (by kernel_rfl) (fun _ _ _ h => h) (Or.inl ⟨by rfl, ?_⟩) (by assumption) ?_
          rotate_left
          · intro w hSw
            try dsimp only at hSw
            obtain ⟨q0, q1, q2, q3, q4⟩ := hSw
            go_simp
            all_goals with_reducible rfl
          try simp only [Act.put, List.setIfInBounds_toArray, List.set_cons_zero, List.set_cons_succ]
          refine wpAnyH_take (i := 27) (oi := { dst := some 123, op := Go.Op.indexAddr 54 (Go.Operand.tmp 121) (Go.Operand.tmp 122), type := 0, pos := "law.go:140", after := #[{ on := 25, ground := Go.Ground.data }, { on := 26, ground := Go.Ground.data }, { on := 24, ground := Go.Ground.guard }], guard := some (24, false) }) (v := ?_) rfl (by kernel_rfl) (by kernel_rfl) (by kernel_rfl) (fun _ _ _ h => h) (Or.inl ⟨by rfl, ?_⟩) (by assumption) ?_
          rotate_left
          · intro w hSw
            try dsimp only at hSw
            obtain ⟨q0, q1, q2, q3, q4⟩ := hSw
            go_simp
            all_goals with_reducible rfl
          try simp only [Act.put, List.setIfInBounds_toArray, List.set_cons_zero, List.set_cons_succ]
          refine wpAnyH_take (i := 28) (oi := { dst := some 124, op := Go.Op.fieldAddr 40 (Go.Operand.tmp 123) 0, type := 0, pos := "law.go:140", after := #[{ on := 27, ground := Go.Ground.data }, { on := 24, ground := Go.Ground.guard }], guard := some (24, false) }) (v := ?_) rfl (by kernel_rfl) (by kernel_rfl) (by kernel_rfl) (fun _ _ _ h => h) (Or.inl ⟨by rfl, ?_⟩) (by assumption) ?_
          rotate_left
          · intro w hSw
            try dsimp only at hSw
            obtain ⟨q0, q1, q2, q3, q4⟩ := hSw
            go_simp
            all_goals with_reducible rfl
          try simp only [Act.put, List.setIfInBounds_toArray, List.set_cons_zero, List.set_cons_succ]
          refine wpAnyH_take (i := 29) (oi := { dst := some 125, op := Go.Op.load 3 (Go.Operand.tmp 124), type := 3, pos := "law.go:140", after := #[{ on := 28, ground := Go.Ground.data }, { on := 24, ground := Go.Ground.guard }], guard := some (24, false) }) (v := ?_) rfl (by kernel_rfl) (by kernel_rfl) (by kernel_rfl) (fun _ _ _ h => h) (Or.inl ⟨by rfl, ?_⟩) (by assumption) ?_
          rotate_left
          · intro w hSw
            try dsimp only at hSw
            obtain ⟨q0, q1, q2, q3, q4⟩ := hSw
            go_simp
            all_goals with_reducible rfl
          try simp only [Act.put, List.setIfInBounds_toArray, List.set_cons_zero, List.set_cons_succ]
          refine wpAnyH_take (i := 30) (oi := { dst := some 126, op := Go.Op.move (Go.Operand.tmp 1), type := 3, pos := "law.go:140", after := #[{ on := 24, ground := Go.Ground.guard }], guard := some (24, false) }) (v := ?_) rfl (by kernel_rfl) (by kernel_rfl) (by kernel_rfl) (fun _ _ _ h => h) (Or.inl ⟨by rfl, ?_⟩) (by assumption) ?_
          rotate_left
          · intro w hSw
            try dsimp only at hSw
            obtain ⟨q0, q1, q2, q3, q4⟩ := hSw
            go_simp
            all_goals with_reducible rfl
          try simp only [Act.put, List.setIfInBounds_toArray, List.set_cons_zero, List.set_cons_succ]
          refine wpAnyH_take (i := 31) (oi := { dst := some 127, op := Go.Op.binOp Go.BinOp.neq 3 (Go.Operand.tmp 125) (Go.Operand.tmp 126) 3, type := 4, pos := "law.go:140", after := #[{ on := 29, ground := Go.Ground.data }, { on := 30, ground := Go.Ground.data }, { on := 24, ground := Go.Ground.guard }], guard := some (24, false) }) (v := ?_) rfl (by kernel_rfl) (by kernel_rfl) (by kernel_rfl) (fun _ _ _ h => h) (Or.inl ⟨by rfl, ?_⟩) (by assumption) ?_
          rotate_left
          · intro w hSw
            try dsimp only at hSw
            obtain ⟨q0, q1, q2, q3, q4⟩ := hSw
            go_simp
            all_goals with_reducible rfl
          try simp only [Act.put, List.setIfInBounds_toArray, List.set_cons_zero, List.set_cons_succ]
          refine wpAnyH_take (i := 32) (oi := { dst := some 128, op := Go.Op.pick (Go.Operand.tmp 120) (Go.Operand.const (Go.Value.bool true)) (Go.Operand.tmp 127), type := 4, pos := "law.go:140", after := #[{ on := 24, ground := Go.Ground.data }, { on := 31, ground := Go.Ground.data }], guard := none }) (v := ?_) rfl (by kernel_rfl) (by kernel_rfl) (by kernel_rfl) (fun _ _ _ h => h) (Or.inl ⟨by rfl, ?_⟩) (by assumption) ?_
          rotate_left
          · intro w hSw
            try dsimp only at hSw
            obtain ⟨q0, q1, q2, q3, q4⟩ := hSw
            go_simp
            all_goals with_reducible rfl
          try simp only [Act.put, List.setIfInBounds_toArray, List.set_cons_zero, List.set_cons_succ]
          refine wpAnyH_done (by kernel_rfl) ?_ _
          have HB2 := Lib.hid (HBEL.out.drew)
          clear z0 z1 z2 z3 z4
          go_wp2
          go_roundw
          case rel => exact ⟨i + 1, by omega, by go_num, HB2.out⟩
          case measure => simp [intOf]; omega
        · obtain rfl : i = m := by omega
          have H8 := Lib.hid (H7.out.next HBEL.out)
          go_wp2
          go_ret
          exact ⟨rfl, H8.out.bel⟩
end Go.Proofs.YtjmkdgjdemndaaaDoor
