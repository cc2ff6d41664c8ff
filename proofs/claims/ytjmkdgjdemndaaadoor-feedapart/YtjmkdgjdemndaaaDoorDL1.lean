/- The walk of FeedApart. -/
import Derived.Test.YtjmkdgjdemndaaaDoorD3
namespace Go.Proofs.YtjmkdgjdemndaaaDoor
open Go Go.RowKit
set_option maxRecDepth 20000
set_option maxHeartbeats 16000000 in
theorem walkApart (x : Int) (a : Option Addr) (len cap : Nat) (rs : List Rn) (w : World) (hd : X.Wd w) (h : IsRs w a len rs) :
    Calls Tryd.prog 6 #[.int .i64 x, .slice a len cap] w fun e w' => e = .returned (.bool true) ∧ Below w.heap.size w w' := by
  have HD := Lib.hid hd
  have H := Lib.hid h
  have hsz := h.size
  clear h hd
  go_enter Tryd.func6, Tryd.ntmps6
  go_wp2_with fail
  refine (cnew_any 3 w.heap.size w (Nat.le_refl _)).mono ?_
  rintro e w1 ⟨rfl, hj, hb⟩
  have HJ0 := Lib.hid hj
  have HB0 := Lib.hid hb
  clear hj hb
  go_wp2_with fail
  refine (K.lnew_any 1 x 1 true w1).mono ?_
  rintro e w2 ⟨rfl, ⟨bs, br, hl⟩, hb⟩
  have hlo : w.heap.size ≤ w1.heap.size := HB0.out.size
  have HL0 := Lib.hid (hl.lower hlo)
  have HJ1 := Lib.hid (HJ0.out.next hb)
  have HB1 := Lib.hid (Below.next HB0.out hb)
  clear hl hb HJ0 HB0 hlo
  generalize w1.heap.size = b at *
  go_wp2_with fail
  refine (fnew_any w2).mono ?_
  rintro e w3 ⟨rfl, hf, hb⟩
  have H1 : Hid (Fj w w3 w.heap.size (Jf w.heap.size (.slice none 0 0) fun _ => False) (clP 3) [] b bs br ⟨1, x, 1, true, 0, [], 0, []⟩ w2.heap.size 0) := Lib.hid ⟨Below.next HB1.out hb, HJ1.out.next hb, ⟨_, _, HL0.out.next hb⟩, hf, HB1.out.size⟩
  rw [show clP 3 = 3 from rfl] at H1
  clear hf hb HJ1 HL0 HB1
  generalize Jf w.heap.size (.slice none 0 0) (fun _ => False) = F0 at H1
  generalize w2.heap.size = fb at *
  by_cases hg : gRs rs
  · go_wp2_with fail
    refine (awake_any _ (HD.out.below H1.out.bel)).mono ?_
    rintro e w4 ⟨rfl, hb⟩
    have H2 := Lib.hid (H1.out.next hb)
    clear hb H1
    go_wp2_with fail
    refine (greatRs_yes a len cap rs hg _ (isRs_below H.out H2.out.bel)).mono ?_
    rintro e w5 ⟨rfl, hb⟩
    have H3 := Lib.hid (H2.out.next hb)
    clear hb H2
    go_wp2_with fail
    refine (awake_any _ (HD.out.below H3.out.bel)).mono ?_
    rintro e w6 ⟨rfl, hb⟩
    have H4 := Lib.hid (H3.out.next hb)
    clear hb H3
    go_wp2
    go_ret
    exact ⟨rfl, H4.out.bel⟩
  obtain ⟨hl40, hgl⟩ := gRs_at hg
  have HG := Lib.hid hgl
  have HNG := fun w h => Lib.hid (greatRs_no a len cap rs hg w h)
  have hlen : len ≤ 40 := by omega
  clear hgl hl40 hg
  go_wp2_with fail
  refine (awake_any _ (HD.out.below H1.out.bel)).mono ?_
  rintro e w4 ⟨rfl, hb⟩
  have H2 := Lib.hid (H1.out.next hb)
  clear hb H1
  go_wp2_with fail
  refine (HNG _ (isRs_below H.out H2.out.bel)).out.mono ?_
  rintro e w5 ⟨rfl, hb⟩
  have H3 := Lib.hid (H2.out.next hb)
  clear hb H2 HNG
  go_wp2_with fail
  go_loopw [37] (fun v wr => ∃ k : Nat, k ≤ len ∧ v = .int .i64 k ∧ ∃ F L, L = sofar 3 rs k ∧ Fj w wr w.heap.size F 3 L b bs br ⟨1, x, 1, true, 0, [], 0, []⟩ fb 0) (fun v _ => len - (intOf v).toNat)
  case atStart => exact ⟨0, Nat.zero_le _, rfl, F0, [], rfl, H3.out⟩
  case round =>
    obtain ⟨k, hk, rfl, F, L, hL, hp⟩ := hrel
    clear H3
    by_cases hlt : k < len
    · obtain ⟨gb, off, rfl, d0, d1, d2, hru⟩ := rcells_of H.out hp.bel hlt
      obtain ⟨_, hsm⟩ := HG.out k (by omega)
      have hru2 := (hru.below hp.bel).below (Joins.below_alloc1 wr (.cells #[.int .i64 (rs.getD k rn0).o, .int .i64 (rs.getD k rn0).n, .slice (rs.getD k rn0).a (rs.getD k rn0).len (rs.getD k rn0).cap] 43))
      have hst := sofar_step 3 (rs := rs) (k := k) (by omega)
      have hsl := sofar_len 3 rs k
      rw [← hL] at hst hsl
      have HPA := Lib.hid (hp.next (Joins.below_alloc1 wr (.cells #[.int .i64 (rs.getD k rn0).o, .int .i64 (rs.getD k rn0).n, .slice (rs.getD k rn0).a (rs.getD k rn0).len (rs.getD k rn0).cap] 43)))
      generalize rs.getD k rn0 = r at *
      obtain ⟨ro, rn, ra, rl, rc, rus⟩ := r
      simp only at d0 d1 d2 hsm hru2 HPA
      have HST := Lib.hid hst
      have HRU := Lib.hid hru2
      have HSM := Lib.hid hsm
      have h8 := Rb.new wr ro rn ra rl rc
      have e0 := h8.c0
      have e1 := h8.c1
      have e2 := h8.c2
      have hL1000 : L.length ≤ 1000 := by omega
      clear hru hru2 hst hp hL hsm h8 hsl
      go_wp2_with fail
      refine (cadd_any hL1000 ⟨ro, rn, ra, rl, rc, rus⟩ HSM.out _ HRU.out HPA.out.lg).mono ?_
      rintro e w6 ⟨rfl, F', hc⟩
      have HQ := Lib.hid (HPA.out.add hc)
      clear hc HPA e0 e1 e2
      go_wp2
      go_roundw
      case rel => exact ⟨k + 1, by omega, by go_num, F', _, HST.out.symm, HQ.out⟩
      case measure => simp [intOf]; omega
    · obtain rfl : k = len := by omega
      have hL40 : L.length ≤ 40 := by rw [hL]; have := sofar_len 3 rs k; omega
      clear hL
      have H1 := Lib.hid hp
      clear hp
      have hsm := H1.out.lg.sm
      have hmin := pump_min L ⟨1, x, 1, true, 0, [], 0, []⟩ (by simp only [List.length_nil]; have := win_in x; omega) (by simp only [List.length_nil]; omega)
      obtain ⟨hag1, hag2⟩ := pump_again L ⟨1, x, 1, true, 0, [], 0, []⟩
      have hle := pumpN_le L ⟨1, x, 1, true, 0, [], 0, []⟩
      obtain ⟨E1, hE⟩ : ∃ E1, pumpE ⟨1, x, 1, true, 0, [], 0, []⟩ L = E1 := ⟨_, rfl⟩
      obtain ⟨n, hn⟩ : ∃ n, pumpN ⟨1, x, 1, true, 0, [], 0, []⟩ L = n := ⟨_, rfl⟩
      rw [hn] at hmin hag1 hag2 hle
      rw [hE] at hag1 hag2
      obtain ⟨M, hM⟩ : ∃ M, L.length = M := ⟨_, rfl⟩
      have hL1000 : L.length ≤ 1000 := by omega
      have hq : ((n : Int) == min (M : Int) (min (max x 1) 16)) = true := by
        rw [beq_iff_eq]
        simp only [List.length_nil] at hmin
        rw [hM] at hmin
        unfold K.winOf at hmin
        omega
      have HE : Hid (pumpE ⟨1, x, 1, true, 0, [], 0, []⟩ (L.drop 0) = E1) := Lib.hid hE
      have HN : Hid (pumpN ⟨1, x, 1, true, 0, [], 0, []⟩ (L.drop 0) = n) := Lib.hid hn
      have HA1 := Lib.hid hag1
      have HA2 := Lib.hid hag2
      have HM := Lib.hid hM
      have HSM := Lib.hid hsm
      have hCA := fun W h => Lib.hid (call_any (L := L) (B := w.heap.size) (b := w.heap.size) (F := F) (c := 3) hL1000 W h)
      rw [hM] at hCA
      have HCA := Lib.hid hCA
      have HLE := Lib.hid hle
      have HL1000 := Lib.hid hL1000
      clear hmin hag1 hag2 hE hn hM hsm hCA hle hL1000 hL40
      go_wp2_with fail
      refine (HCA.out _ H1.out.lg).out.mono ?_
      rintro e w6 ⟨g, xs, rfl, hrz, _, how, hxs, hb⟩
      have HRZ := Lib.hid hrz
      have HOW := Lib.hid how
      have HXS := Lib.hid hxs
      have H2 := Lib.hid (H1.out.next hb)
      clear hrz how hxs hb H1
      go_wp2_with fail
      refine (pump_any HE.out HN.out (Nat.zero_le _) HL1000.out HD.out _ H2.out).mono ?_
      rintro e w7 ⟨rfl, h, ho⟩
      rw [Nat.zero_add] at h
      have HRZ2 := Lib.hid (HRZ.out.oth ho)
      have HOW2 := Lib.hid (fun r hr => (HOW.out r hr).oth ho)
      have H3 := Lib.hid h
      clear h ho H2 HRZ HOW
      go_wp2_with fail
      refine (fat_any _ H3.out.fd).mono ?_
      rintro e w8 ⟨rfl, rfl⟩
      go_wp2_with fail
      refine (pump_any HA1.out HA2.out HLE.out HL1000.out HD.out _ H3.out).mono ?_
      rintro e w9 ⟨rfl, h, ho⟩
      rw [Nat.add_zero] at h
      have HRZ3 := Lib.hid (HRZ2.out.oth ho)
      have HOW3 := Lib.hid (fun r hr => (HOW2.out r hr).oth ho)
      have H4 := Lib.hid h
      clear h ho H3 HRZ2 HOW2
      go_wp2_with fail
      refine (fat_any _ H4.out.fd).mono ?_
      rintro e w10 ⟨rfl, rfl⟩
      go_wp2_with fail
      refine (HCA.out _ H4.out.lg).out.mono ?_
      rintro e w11 ⟨g2, ys, rfl, hrz, _, how, hys, hb⟩
      have h1 := rz_is (HRZ3.out.next hb) (fun r hr => (HOW3.out r hr).next' hb)
      have h2 := rz_is hrz how
      have l1 := map_len HXS.out
      have l2 := map_len hys
      rw [HM.out] at l1 l2
      rw [l1] at h1
      rw [l2] at h2
      have HSA := Lib.hid (sameall_yes (some ⟨g2, 0, none⟩) (some ⟨g, 0, none⟩) M M M ys xs (by have := HL1000.out; have := HM.out; omega) (alk_of (hys.trans HXS.out.symm) M) (fun i hi => us_le HSM.out hys i (by omega)) w11 h2 h1)
      have H5 := Lib.hid (H4.out.next hb)
      clear hrz how hys hb h1 h2 l1 l2 H4 HRZ3 HOW3
      go_wp2_with fail
      refine HSA.out.mono ?_
      rintro e w12 ⟨rfl, hb⟩
      have H6 := Lib.hid (H5.out.next hb)
      clear hb H5
      go_wp2
      go_ret
      exact ⟨rfl, H6.out.bel⟩
end Go.Proofs.YtjmkdgjdemndaaaDoor
