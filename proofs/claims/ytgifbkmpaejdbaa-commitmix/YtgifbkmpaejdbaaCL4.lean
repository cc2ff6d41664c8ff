/- The walk of CommitMix. -/
import Derived.Test.YtgifbkmpaejdbaaC8
namespace Go.Proofs.Ytgifbkmpaejdbaa
open Go Go.RowKit
set_option maxRecDepth 20000
/-- What so many of the rounds of the origin p make. -/
def firsts (c p : Int) (rs : List Rn) (k : Nat) : List Cr := runL c [] (filt p ((rs.take k).map kR))
/-- What so many of the others make then. -/
def others (c p : Int) (rs : List Rn) (N : Nat) (k : Nat) : List Cr := runL c (firsts c p rs N) (rest p ((rs.take k).map kR))
theorem firsts_step (c p : Int) {rs : List Rn} {k : Nat} (hk : k < rs.length) : firsts c p rs (k + 1) = if (rs.getD k rn0).o = p then comL c (firsts c p rs k) (kR (rs.getD k rn0)) else firsts c p rs k := by
  unfold firsts
  rw [take_snoc rs k hk, List.map_append, List.map_cons, List.map_nil, filt_snoc]
  have e : (kR (rs.getD k rn0)).1 = (rs.getD k rn0).o := rfl
  rw [e]
  by_cases h : (rs.getD k rn0).o = p
  · rw [if_pos h, if_pos h, runL_snoc]
  · rw [if_neg h, if_neg h]
theorem others_step (c p : Int) {rs : List Rn} (N : Nat) {k : Nat} (hk : k < rs.length) : others c p rs N (k + 1) = if (rs.getD k rn0).o = p then others c p rs N k else comL c (others c p rs N k) (kR (rs.getD k rn0)) := by
  unfold others
  rw [take_snoc rs k hk, List.map_append, List.map_cons, List.map_nil, rest_snoc]
  have e : (kR (rs.getD k rn0)).1 = (rs.getD k rn0).o := rfl
  rw [e]
  by_cases h : (rs.getD k rn0).o = p
  · rw [if_pos h, if_pos h]
  · rw [if_neg h, if_neg h, runL_snoc]
theorem firsts_len (c p : Int) (rs : List Rn) (k : Nat) : (firsts c p rs k).length ≤ k := by
  have h1 := runL_len c (filt p ((rs.take k).map kR)) []
  have h2 := List.length_filter_le (fun r : Cr => decide (r.1 = p)) ((rs.take k).map kR)
  have h3 : ((rs.take k).map kR).length ≤ k := by simp; omega
  have h4 : ([] : List Cr).length = 0 := rfl
  unfold firsts filt at *
  omega
theorem others_len (c p : Int) (rs : List Rn) (N k : Nat) : (others c p rs N k).length ≤ N + k := by
  have h0 := firsts_len c p rs N
  have h1 := runL_len c (rest p ((rs.take k).map kR)) (firsts c p rs N)
  have h2 := List.length_filter_le (fun r : Cr => !decide (r.1 = p)) ((rs.take k).map kR)
  have h3 : ((rs.take k).map kR).length ≤ k := by simp; omega
  unfold others
  unfold rest at *
  omega
/-- The rounds of the origin p, as the law puts them together. -/
def fR (p : Int) (xs : List Rn) : List Rn := xs.filter fun r => decide (r.o = p)
theorem fR_map (p : Int) (xs : List Rn) : (fR p xs).map kR = filt p (xs.map kR) := by
  unfold fR filt
  rw [List.filter_map]
  rfl
theorem fR_step (p : Int) {xs : List Rn} {k : Nat} (hk : k < xs.length) : fR p (xs.take (k + 1)) = if (xs.getD k rn0).o = p then fR p (xs.take k) ++ [xs.getD k rn0] else fR p (xs.take k) := by
  unfold fR
  rw [take_snoc xs k hk, List.filter_append]
  generalize xs.getD k rn0 = x
  by_cases h : x.o = p
  · rw [if_pos h]; simp [h]
  · rw [if_neg h]; simp [h]
theorem fR_len (p : Int) (xs : List Rn) (k : Nat) : (fR p (xs.take k)).length ≤ k := by
  have h2 := List.length_filter_le (fun r : Rn => decide (r.o = p)) (xs.take k)
  have h3 : (xs.take k).length ≤ k := by simp; omega
  unfold fR
  omega
theorem fR_mem {p : Int} {xs : List Rn} {r : Rn} (h : r ∈ fR p xs) : r ∈ xs := (List.mem_filter.1 h).1
/-- Both orders, all rounds played. -/
theorem mix_all (c p : Int) {rs : List Rn} {len : Nat} (h : rs.length = len) : filt p (others c p rs len len) = filt p (sofar c rs len) ∧ (others c p rs len len).length = (sofar c rs len).length ∧ lastL p (others c p rs len len) = lastL p (sofar c rs len) := by
  have e : rs.take len = rs := takeR_all h
  unfold others firsts sofar
  rw [e]
  exact ⟨mix_filt c p _ p, mix_len c p _, mix_last c p _⟩
set_option maxHeartbeats 16000000 in
theorem walkMix (a : Option Addr) (len cap : Nat) (rs : List Rn) (t0 : Int) (w : World) (h : IsRs w a len rs) :
    Calls Try.prog 8 #[.slice a len cap, .int .u8 t0] w fun e w' => e = .returned (.bool true) ∧ Below w.heap.size w w' := by
  have H := Lib.hid h
  have hsz := h.size
  have HSZ := Lib.hid hsz
  clear h
  go_enter Try.func8, Try.ntmps8
  go_wp2_with fail
  refine (cnew_any 64 w.heap.size w (Nat.le_refl _)).mono ?_
  rintro e w1 ⟨rfl, hj, hb⟩
  have HJ0 := Lib.hid hj
  have HB0 := Lib.hid hb
  clear hj hb
  go_wp2_with fail
  refine (cnew_any 64 w.heap.size w1 HB0.out.size).mono ?_
  rintro e w2 ⟨rfl, hj, hb⟩
  have H1 : Hid (Cp 53 Pc 53 Pc w w2 w.heap.size w1.heap.size _ _ (clP 64) [] []) := Lib.hid ⟨Below.next HB0.out hb, HJ0.out.next hb, hj, fun k h1 h2 => by
    have := jf0 h1
    have := jf0 h2
    have := (HJ0.out.foot k h1).2
    omega⟩
  generalize Jf w.heap.size (.slice none 0 0) (fun _ => False) = F0 at H1
  generalize Jf w1.heap.size (.slice none 0 0) (fun _ => False) = G0 at H1
  clear hj hb HJ0 HB0
  generalize w1.heap.size = d at *
  generalize clP 64 = c at *
  by_cases hg : gRs rs
  · go_wp2_with fail
    refine (awake_any _).mono ?_
    rintro e w2 ⟨rfl, hb⟩
    have H2 := Lib.hid (H1.out.next hb)
    clear hb H1
    go_wp2_with fail
    refine (greatRs_yes a len cap rs hg _ (isRs_below H.out H2.out.bel)).mono ?_
    rintro e w3 ⟨rfl, hb⟩
    have H3 := Lib.hid (H2.out.next hb)
    clear hb H2
    go_wp2_with fail
    refine (awake_any _).mono ?_
    rintro e w4 ⟨rfl, hb⟩
    have H4 := Lib.hid (H3.out.next hb)
    clear hb H3
    go_wp2
    go_ret
    exact ⟨rfl, H4.out.bel⟩
  obtain ⟨hl40, hgl⟩ := gRs_at hg
  have HG := Lib.hid hgl
  have HNG := fun w h => Lib.hid (greatRs_no a len cap rs hg w h)
  have hlen : len ≤ 40 := by omega
  clear hgl hl40 hg
  go_wp2_with fail
  refine (awake_any _).mono ?_
  rintro e w2 ⟨rfl, hb⟩
  have H2 := Lib.hid (H1.out.next hb)
  clear hb H1
  go_wp2_with fail
  refine (HNG _ (isRs_below H.out H2.out.bel)).out.mono ?_
  rintro e w3 ⟨rfl, hb⟩
  have H3 := Lib.hid (H2.out.next hb)
  clear hb H2 HNG
  go_wp2_with fail
  generalize wrap64 ((wrap64 t0).tmod 64 + 1) = p
  go_loopw [41] (fun v41 wr => ∃ k : Nat, k ≤ len ∧ v41 = .int .i64 k ∧ ∃ F G L M, L = sofar c rs k ∧ M = firsts c p rs k ∧ Cp 53 Pc 53 Pc w wr w.heap.size d F G c L M) (fun v41 _ => len - (intOf v41).toNat)
  case atStart => exact ⟨0, Nat.zero_le _, rfl, F0, G0, [], [], rfl, rfl, H3.out⟩
  case round =>
    obtain ⟨k, hk, rfl, F, G, L, M, hL, hM, hp⟩ := hrel
    clear H3
    by_cases hlt : k < len
    · obtain ⟨gb, off, rfl, d0, d1, d2, hru⟩ := rcells_of H.out hp.bel hlt
      obtain ⟨_, hsm⟩ := HG.out k (by omega)
      have HRU0 := Lib.hid hru
      have HG8 : Hid (∀ j, wr.heap.size ≤ j → ¬ G j) := Lib.hid fun j hj hG => by have := (hp.m.foot j hG).2; omega
      have hru2 := (hru.below hp.bel).below (Joins.below_alloc1 wr (.cells #[.int .i64 (rs.getD k rn0).o, .int .i64 (rs.getD k rn0).n, .slice (rs.getD k rn0).a (rs.getD k rn0).len (rs.getD k rn0).cap] 31))
      have hst := sofar_step c (rs := rs) (k := k) (by omega)
      have hsl := sofar_len c rs k
      rw [← hL] at hst hsl
      have hs2 := firsts_step c p (rs := rs) (k := k) (by omega)
      have hml := firsts_len c p rs k
      rw [← hM] at hs2 hml
      have HPA := Lib.hid (hp.next (Joins.below_alloc1 wr (.cells #[.int .i64 (rs.getD k rn0).o, .int .i64 (rs.getD k rn0).n, .slice (rs.getD k rn0).a (rs.getD k rn0).len (rs.getD k rn0).cap] 31)))
      have HF8 : Hid (∀ j, wr.heap.size ≤ j → ¬ F j) := Lib.hid fun j hj hF => by have := (hp.j.foot j hF).2; omega
      generalize rs.getD k rn0 = r at *
      obtain ⟨ro, rn, ra, rl, rc, rus⟩ := r
      simp only at d0 d1 d2 hsm hru2 HPA HRU0 hs2
      have HST := Lib.hid hst
      have HS2 := Lib.hid hs2
      have HRU := Lib.hid hru2
      have HSM := Lib.hid hsm
      have h8 := Rb.new wr ro rn ra rl rc
      have HR8 := Lib.hid h8
      have e0 := h8.c0
      have e1 := h8.c1
      have e2 := h8.c2
      have hL1000 : L.length ≤ 1000 := by omega
      clear hru hru2 hst hp hL hsm h8
      have hM1000 : M.length ≤ 1000 := by omega
      clear hM hs2 hml
      by_cases ho : ro = p
      · have q9 : (ro == p) = true := by rw [beq_iff_eq]; exact ho
        have HS3 := Lib.hid (HS2.out.trans (if_pos ho))
        clear ho HS2
        go_wp2_with fail
        refine (cadd_any (L := L) hL1000 ⟨ro, rn, ra, rl, rc, rus⟩ HSM.out _ HRU.out HPA.out.j).mono ?_
        rintro e w3 ⟨rfl, F', hc⟩
        have h8 := HR8.out.left hc.lv (HF8.out _ (Nat.le_refl _))
        have e0' := h8.c0
        have e1' := h8.c1
        have e2' := h8.c2
        have HP3 := Lib.hid (HPA.out.com1 hc)
        have HRU3 : Hid (Ru w3 ⟨ro, rn, ra, rl, rc, rus⟩) := Lib.hid ((HRU0.out.below HP3.out.bel))
        clear hc h8 e0 e1 e2
        go_wp2_with fail
        refine (cadd_any (L := M) hM1000 ⟨ro, rn, ra, rl, rc, rus⟩ HSM.out _ HRU3.out HP3.out.m).mono ?_
        rintro e w4 ⟨rfl, G', hc⟩
        have HP4 := Lib.hid (HP3.out.com2 hc)
        clear hc
        go_wp2
        go_roundw
        case rel => exact ⟨k + 1, by omega, by go_num, F', G', _, _, HST.out.symm, HS3.out.symm, HP4.out⟩
        case measure => simp [intOf]; omega
      · have q9 : (ro == p) = false := by rw [beq_eq_false_iff_ne]; exact ho
        have HS3 := Lib.hid (HS2.out.trans (if_neg ho))
        clear ho HS2
        go_wp2_with fail
        refine (cadd_any (L := L) hL1000 ⟨ro, rn, ra, rl, rc, rus⟩ HSM.out _ HRU.out HPA.out.j).mono ?_
        rintro e w3 ⟨rfl, F', hc⟩
        have h8 := HR8.out.left hc.lv (HF8.out _ (Nat.le_refl _))
        have e0' := h8.c0
        have e1' := h8.c1
        have e2' := h8.c2
        have HP3 := Lib.hid (HPA.out.com1 hc)
        have HRU3 : Hid (Ru w3 ⟨ro, rn, ra, rl, rc, rus⟩) := Lib.hid ((HRU0.out.below HP3.out.bel))
        clear hc h8 e0 e1 e2
        go_wp2_with fail
        go_roundw
        case rel => exact ⟨k + 1, by omega, by go_num, F', G, _, M, HST.out.symm, HS3.out.symm, HP3.out⟩
        case measure => simp [intOf]; omega
    · obtain rfl : len = k := by omega
      have HP := Lib.hid hp
      have HL := Lib.hid hL
      have HM := Lib.hid hM
      clear hp hL hM
      go_wp2_with fail
      go_loopw [58] (fun v58 wr => ∃ k : Nat, k ≤ len ∧ v58 = .int .i64 k ∧ ∃ G M, M = others c p rs len k ∧ Cp 53 Pc 53 Pc w wr w.heap.size d F G c L M) (fun v58 _ => len - (intOf v58).toNat)
      case atStart => exact ⟨0, Nat.zero_le _, rfl, G, M, HM.out, HP.out⟩
      case round =>
        obtain ⟨k, hk, rfl, G, M, hM, hp⟩ := hrel
        clear HP HM
        by_cases hlt : k < len
        · obtain ⟨gb, off, rfl, d0, d1, d2, hru⟩ := rcells_of H.out hp.bel hlt
          obtain ⟨_, hsm⟩ := HG.out k (by omega)
          have HRU0 := Lib.hid hru
          have HG8 : Hid (∀ j, wr.heap.size ≤ j → ¬ G j) := Lib.hid fun j hj hG => by have := (hp.m.foot j hG).2; omega
          have hru2 := (hru.below hp.bel).below (Joins.below_alloc1 wr (.cells #[.int .i64 (rs.getD k rn0).o, .int .i64 (rs.getD k rn0).n, .slice (rs.getD k rn0).a (rs.getD k rn0).len (rs.getD k rn0).cap] 31))
          have hs2 := others_step c p (rs := rs) len (k := k) (by omega)
          have hml := others_len c p rs len k
          rw [← hM] at hs2 hml
          have HPA := Lib.hid (hp.next (Joins.below_alloc1 wr (.cells #[.int .i64 (rs.getD k rn0).o, .int .i64 (rs.getD k rn0).n, .slice (rs.getD k rn0).a (rs.getD k rn0).len (rs.getD k rn0).cap] 31)))
          have HF8 : Hid (∀ j, wr.heap.size ≤ j → ¬ F j) := Lib.hid fun j hj hF => by have := (hp.j.foot j hF).2; omega
          generalize rs.getD k rn0 = r at *
          obtain ⟨ro, rn, ra, rl, rc, rus⟩ := r
          simp only at d0 d1 d2 hsm hru2 HPA HRU0 hs2
          have HS2 := Lib.hid hs2
          have HRU := Lib.hid hru2
          have HSM := Lib.hid hsm
          have h8 := Rb.new wr ro rn ra rl rc
          have HR8 := Lib.hid h8
          have e0 := h8.c0
          have e1 := h8.c1
          have e2 := h8.c2
          clear hru hru2 hp hsm h8
          have hM1000 : M.length ≤ 1000 := by omega
          clear hM hs2 hml
          by_cases ho : ro = p
          · have q9 : (ro == p) = true := by rw [beq_iff_eq]; exact ho
            have q8 : (ro != p) = false := by rw [bne_eq_false_iff_eq]; exact ho
            have HS3 := Lib.hid (HS2.out.trans (if_pos ho))
            clear ho HS2
            go_wp2_with fail
            go_roundw
            case rel => exact ⟨k + 1, by omega, by go_num, G, M, HS3.out.symm, HPA.out⟩
            case measure => simp [intOf]; omega
          · have q9 : (ro == p) = false := by rw [beq_eq_false_iff_ne]; exact ho
            have q8 : (ro != p) = true := by rw [bne_iff_ne]; exact ho
            have HS3 := Lib.hid (HS2.out.trans (if_neg ho))
            clear ho HS2
            go_wp2_with fail
            refine (cadd_any (L := M) hM1000 ⟨ro, rn, ra, rl, rc, rus⟩ HSM.out _ HRU.out HPA.out.m).mono ?_
            rintro e w4 ⟨rfl, G', hc⟩
            have HP4 := Lib.hid (HPA.out.com2 hc)
            clear hc
            go_wp2
            go_roundw
            case rel => exact ⟨k + 1, by omega, by go_num, G', _, HS3.out.symm, HP4.out⟩
            case measure => simp [intOf]; omega
        · obtain rfl : len = k := by omega
          have hml := others_len c p rs len len
          have hsl := sofar_len c rs len
          obtain ⟨x1, x2, x3⟩ := mix_all c p HSZ.out
          rw [← hM] at hml x1 x2 x3
          rw [← HL.out] at hsl x1 x2 x3
          obtain ⟨n0, hn0⟩ : ∃ n0, L.length = n0 := ⟨_, rfl⟩
          rw [hn0] at x2 hsl
          have hn40 : n0 ≤ 40 := by omega
          have hn : L.length ≤ 1000 := by omega
          have hn2 : M.length ≤ 1000 := by omega
          have HCA := fun W h => Lib.hid (call_any (L := L) (B := w.heap.size) (b := w.heap.size) (F := F) (c := c) hn W h)
          have HCB := fun W h => Lib.hid (call_any (L := M) (B := w.heap.size) (b := d) (F := G) (c := c) hn2 W h)
          have HLA := Lib.hid (fun W h => clen_any (L := L) (B := w.heap.size) (b := w.heap.size) (F := F) (c := c) W h)
          have HLB := Lib.hid (fun W h => clen_any (L := M) (B := w.heap.size) (b := d) (F := G) (c := c) W h)
          have HTA := Lib.hid (fun W h => clast_any (L := L) (B := w.heap.size) (b := w.heap.size) (F := F) (c := c) p W h)
          have HTB := Lib.hid (fun W h => clast_any (L := M) (B := w.heap.size) (b := d) (F := G) (c := c) p W h)
          rw [hn0] at HCA HLA
          rw [x2] at HCB HLB
          rw [x3] at HTB
          obtain ⟨z, hz⟩ : ∃ z, lastL p L = z := ⟨_, rfl⟩
          rw [hz] at HTA HTB
          have HSML := Lib.hid hp.j.sm
          have HX1 : Hid (filt p L = filt p M) := Lib.hid x1.symm
          have HX2 := Lib.hid x2
          have HN0 := Lib.hid hn0
          have HP := Lib.hid hp
          clear hp hM hml hsl x1 x2 x3 hn hn2 hn0 hz
          go_wp2_with fail
          refine (HCA _ HP.out.j).out.mono ?_
          rintro e w5 ⟨g1, xs, rfl, hrz, _, how, hxs, hb⟩
          have hxl := map_len hxs
          rw [HN0.out] at hxl
          have hix := rz_is hrz how
          rw [hxl] at hix
          have HXS := Lib.hid hxs
          have HI := Lib.hid hix
          have HP5 := Lib.hid (HP.out.next hb)
          clear hrz how hxs hb hxl hix HP HCA
          go_wp2_with fail
          go_loopw [12, 73] (fun v12 v73 wz => ∃ i : Nat, i ≤ n0 ∧ v73 = .int .i64 i ∧ ∃ v, v12 = v ∧ RowR w5.heap.size wz v (fR p (xs.take i)) ∧ Below w5.heap.size w5 wz) (fun _ v73 _ => n0 - (intOf v73).toNat)
          case atStart => exact ⟨0, Nat.zero_le _, rfl, .slice none 0 0, rfl, rowR_nil _ _, Below.refl _ _⟩
          case round =>
            obtain ⟨i, hi, rfl, v, rfl, hrow, hbz⟩ := hrel
            by_cases hil : i < n0
            · obtain ⟨gx, offx, ex, m0, m1, m2, hmu⟩ := rcells_of HI.out hbz hil
              cases ex
              rw [Nat.zero_add] at m0 m1 m2
              have hs2 := fR_step p (xs := xs) (k := i) (by have := HI.out.size; omega)
              have HLX := Lib.hid (fR_len p xs i)
              have hbA := Joins.below_alloc1 wr (.cells #[.int .i64 (xs.getD i rn0).o, .int .i64 (xs.getD i rn0).n, .slice (xs.getD i rn0).a (xs.getD i rn0).len (xs.getD i rn0).cap] 31)
              have HROWA := Lib.hid (hrow.below hbA)
              have HBA := Lib.hid (Below.next hbz hbA)
              generalize xs.getD i rn0 = r at *
              obtain ⟨ro, rn, ra, rl, rc, rus⟩ := r
              simp only at m0 m1 m2 hs2 HROWA HBA
              have h8 := Rb.new wr ro rn ra rl rc
              have e0 := h8.c0
              have e1 := h8.c1
              have e2 := h8.c2
              clear hmu hbz hrow h8 hbA
              by_cases ho : ro = p
              · have q9 : (ro == p) = true := by rw [beq_iff_eq]; exact ho
                have HS3 := Lib.hid (hs2.trans (if_pos ho))
                clear ho hs2
                have hone := rsAt_one (wr.alloc (.cells #[.int .i64 ro, .int .i64 rn, .slice ra rl rc] 31)) ⟨ro, rn, ra, rl, rc, rus⟩
                rw [show (wr.alloc (.cells #[.int .i64 ro, .int .i64 rn, .slice ra rl rc] 31)).heap.size = wr.heap.size + 1 by simp] at hone
                have HONE := Lib.hid hone
                have HROWB := Lib.hid (HROWA.out.alloc (.cells #[.int .i64 ro, .int .i64 rn, .slice ra rl rc] 31))
                have HBB := Lib.hid (Below.step HBA.out (.cells #[.int .i64 ro, .int .i64 rn, .slice ra rl rc] 31) (Below.refl _ _))
                clear hone
                go_wp2_with (at_builtin; refine wpList_appR rfl (.tmp 81) (.tmp 83) rfl w5.heap.size _ _ rfl HROWB.out (some ⟨wr.heap.size + 1, 0, none⟩) 1 1 rfl [⟨ro, rn, ra, rl, rc, rus⟩] HONE.out (Nat.le_refl _) (fun e => by cases e) (by have := HLX.out; omega) HBB.out.size ?_)
                intro a' c' w9 h1 h2 _
                have hB5 := belR HROWB.out HBB.out h2 HBB.out.size
                rw [← HS3.out] at h1
                have HROW5 := Lib.hid h1
                have HB5 := Lib.hid hB5
                clear h1 h2 hB5
                go_wp2
                go_roundw
                case rel => exact ⟨i + 1, by omega, by go_num, _, rfl, HROW5.out, HB5.out⟩
                case measure => simp [intOf]; omega
              · have q9 : (ro == p) = false := by rw [beq_eq_false_iff_ne]; exact ho
                have HS3 := Lib.hid (hs2.trans (if_neg ho))
                clear ho hs2
                go_wp2_with fail
                rw [← HS3.out] at HROWA
                go_roundw
                case rel => exact ⟨i + 1, by omega, by go_num, _, rfl, HROWA.out, HBA.out⟩
                case measure => simp [intOf]; omega
            · obtain rfl : n0 = i := by omega
              rw [takeR_all HI.out.size] at hrow
              have HX := Lib.hid hrow
              have HPA := Lib.hid (HP5.out.next hbz)
              have HBZ := Lib.hid hbz
              clear hrow hbz HP5
              go_wp2_with fail
              refine (HCB _ HPA.out.m).out.mono ?_
              rintro e w6 ⟨g2, ys, rfl, hrz, _, how, hys, hb⟩
              have hyl := map_len hys
              rw [HX2.out] at hyl
              have hiy := rz_is hrz how
              rw [hyl] at hiy
              have HYS := Lib.hid hys
              have HIY := Lib.hid hiy
              have HP6 := Lib.hid (HPA.out.next hb)
              have HX := Lib.hid (HX.out.below hb)
              have HB6 := Lib.hid (Below.next HBZ.out hb)
              clear hrz how hys hb hyl hiy HPA HBZ HCB
              go_wp2_with fail
              go_loopw [13, 89] (fun v13 v89 wz => ∃ i : Nat, i ≤ n0 ∧ v89 = .int .i64 i ∧ ∃ v, v13 = v ∧ RowR w6.heap.size wz v (fR p (ys.take i)) ∧ Below w6.heap.size w6 wz) (fun _ v89 _ => n0 - (intOf v89).toNat)
              case atStart => exact ⟨0, Nat.zero_le _, rfl, .slice none 0 0, rfl, rowR_nil _ _, Below.refl _ _⟩
              case round =>
                obtain ⟨i, hi, rfl, v, rfl, hrow, hbz⟩ := hrel
                by_cases hil : i < n0
                · obtain ⟨gx, offx, ex, m0, m1, m2, hmu⟩ := rcells_of HIY.out hbz hil
                  cases ex
                  rw [Nat.zero_add] at m0 m1 m2
                  have hs2 := fR_step p (xs := ys) (k := i) (by have := HIY.out.size; omega)
                  have HLX := Lib.hid (fR_len p ys i)
                  have hbA := Joins.below_alloc1 wr (.cells #[.int .i64 (ys.getD i rn0).o, .int .i64 (ys.getD i rn0).n, .slice (ys.getD i rn0).a (ys.getD i rn0).len (ys.getD i rn0).cap] 31)
                  have HROWA := Lib.hid (hrow.below hbA)
                  have HBA := Lib.hid (Below.next hbz hbA)
                  generalize ys.getD i rn0 = r at *
                  obtain ⟨ro, rn, ra, rl, rc, rus⟩ := r
                  simp only at m0 m1 m2 hs2 HROWA HBA
                  have h8 := Rb.new wr ro rn ra rl rc
                  have e0 := h8.c0
                  have e1 := h8.c1
                  have e2 := h8.c2
                  clear hmu hbz hrow h8 hbA
                  by_cases ho : ro = p
                  · have q9 : (ro == p) = true := by rw [beq_iff_eq]; exact ho
                    have HS3 := Lib.hid (hs2.trans (if_pos ho))
                    clear ho hs2
                    have hone := rsAt_one (wr.alloc (.cells #[.int .i64 ro, .int .i64 rn, .slice ra rl rc] 31)) ⟨ro, rn, ra, rl, rc, rus⟩
                    rw [show (wr.alloc (.cells #[.int .i64 ro, .int .i64 rn, .slice ra rl rc] 31)).heap.size = wr.heap.size + 1 by simp] at hone
                    have HONE := Lib.hid hone
                    have HROWB := Lib.hid (HROWA.out.alloc (.cells #[.int .i64 ro, .int .i64 rn, .slice ra rl rc] 31))
                    have HBB := Lib.hid (Below.step HBA.out (.cells #[.int .i64 ro, .int .i64 rn, .slice ra rl rc] 31) (Below.refl _ _))
                    clear hone
                    go_wp2_with (at_builtin; refine wpList_appR rfl (.tmp 97) (.tmp 99) rfl w6.heap.size _ _ rfl HROWB.out (some ⟨wr.heap.size + 1, 0, none⟩) 1 1 rfl [⟨ro, rn, ra, rl, rc, rus⟩] HONE.out (Nat.le_refl _) (fun e => by cases e) (by have := HLX.out; omega) HBB.out.size ?_)
                    intro a' c' w9 h1 h2 _
                    have hB5 := belR HROWB.out HBB.out h2 HBB.out.size
                    rw [← HS3.out] at h1
                    have HROW5 := Lib.hid h1
                    have HB5 := Lib.hid hB5
                    clear h1 h2 hB5
                    go_wp2
                    go_roundw
                    case rel => exact ⟨i + 1, by omega, by go_num, _, rfl, HROW5.out, HB5.out⟩
                    case measure => simp [intOf]; omega
                  · have q9 : (ro == p) = false := by rw [beq_eq_false_iff_ne]; exact ho
                    have HS3 := Lib.hid (hs2.trans (if_neg ho))
                    clear ho hs2
                    go_wp2_with fail
                    rw [← HS3.out] at HROWA
                    go_roundw
                    case rel => exact ⟨i + 1, by omega, by go_num, _, rfl, HROWA.out, HBA.out⟩
                    case measure => simp [intOf]; omega
                · obtain rfl : n0 = i := by omega
                  rw [takeR_all HIY.out.size] at hrow
                  have hx1 := HX.out.below hbz
                  obtain ⟨ax, cx, rfl, hx2, hcx, hnx⟩ := hx1.is
                  obtain ⟨ay, cy, rfl, hy2, hcy, hny⟩ := hrow.is
                  obtain ⟨q, hq⟩ : ∃ q, (fR p xs).length = q := ⟨_, rfl⟩
                  have hmap : (fR p xs).map kR = (fR p ys).map kR := by rw [fR_map, fR_map, HXS.out, HYS.out, HX1.out]
                  have hq2 : (fR p ys).length = q := by
                    have := congrArg List.length hmap
                    rw [List.length_map, List.length_map] at this
                    omega
                  have hi1 : IsRs wr ax q (fR p xs) := ⟨hq, fun h0 => hx2.lies (by omega), fun r hr => (HI.out.each r (fR_mem hr)).below (Below.next HB6.out hbz)⟩
                  have hi2 : IsRs wr ay q (fR p ys) := ⟨hq2, fun h0 => hy2.lies (by omega), fun r hr => (HIY.out.each r (fR_mem hr)).below hbz⟩
                  rw [hq] at hx1
                  rw [hq2] at hrow
                  have hq40 : q ≤ 1000 := by
                    have h1 := List.length_filter_le (fun r : Rn => decide (r.o = p)) xs
                    have h2 := HI.out.size
                    unfold fR at hq
                    omega
                  have HSA := Lib.hid (sameall_yes ax ay q cx cy (fR p xs) (fR p ys) (by omega) (alk_of hmap q) (fun j hj => us_le (L := filt p L) (fun r hr => HSML.out r (mem_filt.1 hr).1) (by rw [fR_map, HXS.out]) j (by omega)) wr hi1 hi2)
                  have HP7 := Lib.hid (HP6.out.next hbz)
                  rw [hq, hq2]
                  clear hx1 hrow hx2 hy2 hcx hcy hnx hny hmap hi1 hi2 hbz hq hq2 HX HI HIY HP6
                  go_wp2_with fail
                  refine HSA.out.mono ?_
                  rintro e w8 ⟨rfl, hb⟩
                  have HP8 := Lib.hid (HP7.out.next hb)
                  clear hb HP7 HSA
                  go_wp2_with fail
                  refine (HLA.out _ HP8.out.j).mono ?_
                  rintro e w9 ⟨rfl, rfl⟩
                  go_wp2_with fail
                  refine (HLB.out _ HP8.out.m).mono ?_
                  rintro e w10 ⟨rfl, rfl⟩
                  go_wp2_with fail
                  refine (HTA.out _ HP8.out.j).mono ?_
                  rintro e w11 ⟨rfl, rfl⟩
                  go_wp2_with fail
                  refine (HTB.out _ HP8.out.m).mono ?_
                  rintro e w12 ⟨rfl, rfl⟩
                  go_wp2
                  go_ret
                  exact ⟨rfl, HP8.out.bel⟩
end Go.Proofs.Ytgifbkmpaejdbaa
