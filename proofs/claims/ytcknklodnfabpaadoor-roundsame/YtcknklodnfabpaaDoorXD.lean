/- The document's Get. -/
import Derived.Test.YtcknklodnfabpaaDoorXD0
namespace Go.Proofs.YtcknklodnfabpaaDoor
open Go Go.RowKit
set_option maxHeartbeats 8000000 in
set_option maxRecDepth 20000 in
theorem docget_any (s : ByteArray) (hm : s.size ≤ 140737488355328) (w : World) :
    Calls Tryd.prog 17 #[.string s] w fun x w' => GotR s w x w' := by
  have hm' : s.size ≤ maxLen := by unfold maxLen; omega
  have HG0 := Lib.hid (DG.start w s)
  go_enter Tryd.func17, Tryd.ntmps17
  go_wp2_with fail
  go_loopw [7] (fun v7 wr => ∃ k : Nat, k ≤ 3 ∧ v7 = .int .i64 k ∧ DG w wr (hvl s k) s (hst s k).1 0 ∧ (hst s k).2 = 0) (fun v7 _ => 3 - (intOf v7).toNat)
  case atStart => exact ⟨0, Nat.zero_le _, rfl, HG0.out, rfl⟩
  case round =>
    obtain ⟨k, hk, rfl, hg, hz⟩ := hrel
    clear HG0
    by_cases hlt : k < 3
    · have hA := hst_le s k
      have hM := hbd_bd k
      have HC := Lib.hid (rnum_any s (hst s k).1 0 (hbd k) (w.heap.size + 2) hA hm' (by omega) (by omega) wr hg.rm)
      have HS : Hid (hst s (k + 1) = (rawA s (hst s k).1 0, hdE s (hst s k).1 0 (hbd k))) := by show hst s (k + 1) = _; rw [show hst s (k + 1) = (rawA s (hst s k).1 (hst s k).2, hdE s (hst s k).1 (hst s k).2 (hbd k)) from rfl, hz]
      have HGE := Lib.hid (geE_hst s (k + 1) (by omega))
      have hV := numV_bd s (hst s k).1 0 (hbd k) hA
      have HFZ := Lib.hid (numE_zero s (hst s k).1 0 (hbd k) hA)
      have HY : Hid (∀ j, j < 3 → hvl s (k + 1) j = if j = k then numV s (hst s k).1 0 (hbd k) else hvl s k j) := fun j _ => by
        unfold hvl
        by_cases hj : j = k
        · rw [if_pos hj, hj, if_pos (by omega), hz]
        · rw [if_neg hj]
          by_cases hjk : j < k
          · rw [if_pos hjk, if_pos (by omega)]
          · rw [if_neg hjk, if_neg (by omega)]
      have c := hg.hd.c k hlt
      rw [hvl_now] at c
      have HG := Lib.hid hg
      have HDE := Lib.hid (show hdE s (hst s k).1 0 (hbd k) = if numV s (hst s k).1 0 (hbd k) = 0 then failE (numE s (hst s k).1 0 (hbd k)) 1 else numE s (hst s k).1 0 (hbd k) from rfl)
      clear hg hA hM hz
      generalize hdE s (hst s k).1 0 (hbd k) = de at *
      generalize numV s (hst s k).1 0 (hbd k) = V at *
      generalize numE s (hst s k).1 0 (hbd k) = F at *
      generalize rawA s (hst s k).1 0 = A' at *
      generalize hbd k = M at *
      by_cases hF : F = 0
      · subst hF
        by_cases hV0 : V = 0
        · subst hV0
          have hde : de = 1 := by rw [HDE.out, if_pos rfl]; rfl
          subst hde
          have hge : geE s = 1 := by have := HGE.out; rw [HS.out] at this; exact this (show (1 : Int) ≠ 0 by decide)
          have HGE2 := Lib.hid hge
          clear hge HGE
          go_wp2_with fail
          refine HC.out.mono ?_
          rintro x w2 ⟨rfl, hr, hgr⟩
          have hg2 := HG.out.read hr hgr
          have c := hg2.hd.c k hlt
          have f := hg2.hd.f0 k
          have c2 := hg2.rm.c2
          have f2 := hg2.rm.f0 2
          have hg3 := (hg2.setX k hlt 0 HY.out).setE 1
          have o0 := hg3.res.c0
          have o1 := hg3.res.c1
          have o2 := hg3.res.c2
          have g0 := hg3.res.f0 0
          have g1 := hg3.res.f0 1
          have g2 := hg3.res.f0 2
          have n0 := hg3.non.c0
          have n1 := hg3.non.c1
          have n2 := hg3.non.c2
          have HB := Lib.hid hg3.bel
          clear hr hgr hg2 hg3 HC HG
          go_wp2_with fail
          go_region
          all_goals (try go_wp2)
          refine bodyPost_ret (v := .tuple #[.agg #[.int .i64 0, .int .i64 0, .slice none 0 0], .int .i64 1]) (by simp [results, Tryd.results17, go_sem, o0, o1, o2]) rfl (gotR_z HGE2.out (by decide) (below_set3 HB.out.drew (Nat.le_refl _) _ _ _))
        · have k1 : (V == 0) = false := by rw [beq_eq_false_iff_ne]; exact hV0
          have hde : de = 0 := by rw [HDE.out, if_neg hV0]
          have HS2 : Hid ((hst s (k + 1)).1 = A' ∧ (hst s (k + 1)).2 = 0) := by show _ ∧ _; rw [HS.out]; exact ⟨rfl, hde⟩
          clear hde hV0
          go_wp2_with fail
          refine HC.out.mono ?_
          rintro x w2 ⟨rfl, hr, hgr⟩
          have hg2 := HG.out.read hr hgr
          have c := hg2.hd.c k hlt
          have f := hg2.hd.f0 k
          have c2 := hg2.rm.c2
          have HG3 := Lib.hid (hg2.setX k hlt V HY.out)
          clear hr hgr hg2 HC HG
          go_wp2
          go_roundw
          case rel => exact ⟨k + 1, by omega, by go_num, by rw [HS2.out.1]; exact HG3.out, HS2.out.2⟩
          case measure => simp [intOf]; omega
      · have hV0 : V = 0 := HFZ.out hF
        subst hV0
        have hde : de = F := by rw [HDE.out, if_pos rfl]; exact failE_dead _ _ hF
        subst hde
        have hge : geE s = de := by have := HGE.out; rw [HS.out] at this; exact this hF
        have HGE2 := Lib.hid hge
        have HNE := Lib.hid hF
        have k1 : (de == 0) = false := by rw [beq_eq_false_iff_ne]; exact hF
        clear hge HGE hF
        go_wp2_with fail
        refine HC.out.mono ?_
        rintro x w2 ⟨rfl, hr, hgr⟩
        have hg2 := HG.out.read hr hgr
        have c := hg2.hd.c k hlt
        have f := hg2.hd.f0 k
        have c2 := hg2.rm.c2
        have hg3 := hg2.setX k hlt 0 HY.out
        have o0 := hg3.res.c0
        have o1 := hg3.res.c1
        have o2 := hg3.res.c2
        have g0 := hg3.res.f0 0
        have g1 := hg3.res.f0 1
        have g2 := hg3.res.f0 2
        have n0 := hg3.non.c0
        have n1 := hg3.non.c1
        have n2 := hg3.non.c2
        have HB := Lib.hid hg3.bel
        clear hr hgr hg2 hg3 HC HG
        go_wp2_with fail
        go_region
        all_goals (try go_wp2)
        refine bodyPost_ret (v := .tuple #[.agg #[.int .i64 0, .int .i64 0, .slice none 0 0], .int .i64 de]) (by simp [results, Tryd.results17, go_sem, o0, o1, o2]) rfl (gotR_z HGE2.out HNE.out (below_set3 HB.out.drew (Nat.le_refl _) _ _ _))
    · obtain rfl : k = 3 := by omega
      rw [show ((3 : Nat) : Int) = 3 from rfl]
      have c0 := hg.hd.c 0 (by omega)
      have c1 := hg.hd.c 1 (by omega)
      have hgA := hg.next (Joins.below_alloc1 wr (.cells #[.int .i64 0, .int .i64 0, .slice none 0 0] 24))
      have d0 := hgA.hd.c 0 (by omega)
      have d1 := hgA.hd.c 1 (by omega)
      clear hgA
      have HG := Lib.hid hg
      have HZ3 := Lib.hid hz
      have hK := (k3_le s)
      have HV : Hid (hvl s 3 0 = numV s 0 0 64 ∧ hvl s 3 1 = numV s (a1 s) (e1 s) 1099511627776 ∧ hvl s 3 2 = (k3 s : Int)) := ⟨rfl, rfl, (k3_le s).1⟩
      have hk8 := hK.2
      rw [HV.out.1] at c0 d0
      rw [HV.out.2.1] at c1 d1
      clear hg hz hK
      generalize hV1 : numV s 0 0 64 = V1 at *
      generalize hV2 : numV s (a1 s) (e1 s) 1099511627776 = V2 at *
      have HV1 := Lib.hid hV1
      have HV2 := Lib.hid hV2
      clear hV1 hV2
      go_wp2_with fail
      go_region
      go_wp2_with fail
      have HL := Lib.hid (DL.start HG.out V1 V2)
      rw [show (hst s 3).1 = a3 s from rfl] at HL
      have HE3 : Hid (e3 s = 0) := HZ3.out
      clear HG c0 c1 d0 d1
      generalize wr.heap.size = p at *
      have HCK := fun (wr : World) (A : Nat) (E : Int) (o n : Int) (a : Option Addr) (c : Nat) (l : List Up) (h : DL w wr (hvl s 3) s A E p o n a c l) => h.g.hd.c 2 (by omega)
      rw [HV.out.2.2] at HCK
      generalize hvl s 3 = hx at *
      generalize hK : k3 s = K at *
      have HKK := Lib.hid hK
      clear hK
      go_loopw [9] (fun v9 wr => ∃ (k : Nat) (a : Option Addr) (c : Nat), k ≤ K ∧ v9 = .int .i64 k ∧ DL w wr hx s (updsR s k (a3 s) 0).2.1 0 p V1 V2 a c (updsR s k (a3 s) 0).1 ∧ (updsR s k (a3 s) 0).2.2 = 0) (fun v9 _ => K - (intOf v9).toNat)
      case atStart => exact ⟨0, none, 0, Nat.zero_le _, rfl, HL.out, rfl⟩
      case round =>
        obtain ⟨k, a, c, hk, rfl, hl, hE0⟩ := hrel
        clear HL
        have c2 := HCK _ _ _ _ _ _ _ _ hl
        by_cases hlt : k < K
        · have hA := updsR_le s k (a3 s) 0 (a3_le s)
          have hlen := updsR_len s k (a3 s) 0
          have HC := Lib.hid (rread_any s (updsR s k (a3 s) 0).2.1 0 (w.heap.size + 2) hA hm' _ hl.g.rm)
          have HS : Hid (updsR s (k + 1) (a3 s) 0 = ((updsR s k (a3 s) 0).1 ++ [(updR s (updsR s k (a3 s) 0).2.1 0).1], (updR s (updsR s k (a3 s) 0).2.1 0).2)) := by
            show updsR s (k + 1) (a3 s) 0 = _
            rw [show updsR s (k + 1) (a3 s) 0 = ((updsR s k (a3 s) 0).1 ++ [(updR s (updsR s k (a3 s) 0).2.1 (updsR s k (a3 s) 0).2.2).1], (updR s (updsR s k (a3 s) 0).2.1 (updsR s k (a3 s) 0).2.2).2) from rfl, hE0]
          have HGE : Hid ((updsR s (k + 1) (a3 s) 0).2.2 ≠ 0 → geE s = (updsR s (k + 1) (a3 s) 0).2.2) := by
            have := geE_4 s (k + 1) (by rw [HKK.out]; omega)
            rw [HE3.out] at this
            exact this
          have HL := Lib.hid hl
          clear hl hA hE0
          generalize updsR s k (a3 s) 0 = r at *
          generalize updR s r.2.1 0 = q at *
          obtain ⟨⟨key, x, nn, t⟩, A', E'⟩ := q
          simp only [uu] at HC
          obtain ⟨l, Ar, Er⟩ := r
          simp only at HC HS HL hlen
          have hl8 : l.length < 8 := by omega
          have HLEN := Lib.hid hlen
          clear hlen
          by_cases hE : E' = 0
          · subst hE
            go_wp2_with fail
            refine HC.out.mono ?_
            rintro y w2 ⟨rfl, hr, hgr⟩
            have hl2 := HL.out.read hr hgr
            have hl3 := hl2.next (Joins.below_alloc1 w2 (.cells #[.string key, .int .i64 x, .int .i64 nn, .string t] 45))
            have hl4 := hl3.next (Joins.below_alloc1 _ (.cells #[.string key, .int .i64 x, .int .i64 nn, .string t] 45))
            have e2 := hl3.g.rm.c2
            have p2 := hl3.rb.c2
            have hnew := news_cells (w2.alloc (.cells #[.string key, .int .i64 x, .int .i64 nn, .string t] 45)) (key, x, nn, t)
            rw [show (w2.alloc (.cells #[.string key, .int .i64 x, .int .i64 nn, .string t] 45)).heap.size = w2.heap.size + 1 by simp] at hnew
            have HNEW := Lib.hid hnew
            clear hnew
            have hlo := hl4.lo
            have hlt4 := hl4.rb.lt
            have HL4 := Lib.hid hl4
            clear hr hgr hl2 hl3 hl4 HC HL
            obtain ⟨i0, hi, hz0, hz1, hz2⟩ := info_parts infoUz
            go_wp2_with (at_builtin; refine wpList_append_own _ rfl _ _ 22 rfl (p + 1) 45 i0 _ 4 48 Tryd.underlying22 hi hz0 hz1 hz2 rfl (by decide) _ l.length (flU l) rfl HL4.out.row ⟨_, 0, none⟩ 1 1 (cellsU4 (key, x, nn, t)) rfl rfl HNEW.out (news_one _) (by unfold maxLen; omega) (by omega) (by omega) ?_)
            intro v' w5 hown hgr _
            obtain ⟨a', c', rfl⟩ : ∃ a' c', v' = .slice a' (l.length + 1) c' := by
              rcases hown.2 with ⟨_, h0⟩ | ⟨g, cap, cur, e, _⟩
              · omega
              · exact ⟨_, _, e⟩
            have hlow : some p ≠ (Value.slice a l.length c).ownBlock := fun e => by
              rcases HL4.out.row.low p (by omega) with e2 | e2
              · rw [e2] at e; cases e
              · exact e2 e.symm
            have hrb5 := HL4.out.rb.kept hgr hlow
            have q2 := hrb5.c2
            have qf := hrb5.f0 2
            have HL5 := Lib.hid (HL4.out.app hown hgr)
            clear hown hgr hlow hrb5 HL4 hi hz0 hz1 hz2
            go_wp2
            go_roundw
            case rel => exact ⟨k + 1, a', c', by omega, by go_num, by rw [HS.out]; exact HL5.out, by rw [HS.out]⟩
            case measure => simp [intOf]; omega
          · have hge : geE s = E' := by have := HGE.out; rw [HS.out] at this; exact this hE
            have HGE2 := Lib.hid hge
            have HNE := Lib.hid hE
            have k1 : (E' == 0) = false := by rw [beq_eq_false_iff_ne]; exact hE
            clear hge HGE hE
            go_wp2_with fail
            refine HC.out.mono ?_
            rintro y w2 ⟨rfl, hr, hgr⟩
            have hl3 := (HL.out.read hr hgr).next (Joins.below_alloc1 w2 (.cells #[.string key, .int .i64 x, .int .i64 nn, .string t] 45))
            have e2 := hl3.g.rm.c2
            have o0 := hl3.g.res.c0
            have o1 := hl3.g.res.c1
            have o2 := hl3.g.res.c2
            have g0 := hl3.g.res.f0 0
            have g1 := hl3.g.res.f0 1
            have g2 := hl3.g.res.f0 2
            have n0 := hl3.g.non.c0
            have n1 := hl3.g.non.c1
            have n2 := hl3.g.non.c2
            have HB := Lib.hid hl3.g.bel
            clear hr hgr hl3 HC HL
            go_wp2_with fail
            go_region
            all_goals (try go_wp2)
            refine bodyPost_ret (v := .tuple #[.agg #[.int .i64 0, .int .i64 0, .slice none 0 0], .int .i64 E']) (by simp [results, Tryd.results17, go_sem, o0, o1, o2]) rfl (gotR_z HGE2.out HNE.out (below_set3 HB.out.drew (Nat.le_refl _) _ _ _))
        · obtain rfl : k = K := by omega
          have HEE : Hid (endE s (updsR s k (a3 s) 0).2.1 0 = geE s) := by
            show _ = geE s
            unfold geE getUs
            rw [HKK.out, HE3.out, hE0]
          have HUS : Hid ((getUs s).1 = (updsR s k (a3 s) 0).1) := by
            show (getUs s).1 = _
            unfold getUs
            rw [HKK.out, HE3.out]
          have HC := Lib.hid (rend_any s (updsR s k (a3 s) 0).2.1 0 (w.heap.size + 2) _ hl.g.rm)
          rw [HEE.out] at HC
          have HL := Lib.hid hl
          clear hl hE0 HEE
          generalize updsR s k (a3 s) 0 = r at *
          obtain ⟨l, Ar, Er⟩ := r
          simp only at HC HL HUS
          by_cases hge : geE s = 0
          · have HGE := Lib.hid hge
            rw [hge] at HC
            clear hge
            go_wp2_with fail
            refine HC.out.mono ?_
            rintro y w2 ⟨rfl, hr, hgr⟩
            have hl2 := HL.out.read hr hgr
            have hlo := hl2.lo
            have p0 := hl2.rb.c0
            have p1 := hl2.rb.c1
            have p2 := hl2.rb.c2
            have HR := Lib.hid hl2.row
            have o0 := hl2.g.res.c0
            have o1 := hl2.g.res.c1
            have o2 := hl2.g.res.c2
            have g0 := hl2.g.res.f0 0
            have g1 := hl2.g.res.f0 1
            have g2 := hl2.g.res.f0 2
            have n0 := hl2.g.non.c0
            have n1 := hl2.g.non.c1
            have n2 := hl2.g.non.c2
            have HB := Lib.hid hl2.g.bel
            clear hr hgr hl2 HC HL
            go_wp2
            refine bodyPost_ret (v := .tuple #[.agg #[.int .i64 V1, .int .i64 V2, .slice a l.length c], .int .i64 0]) (by simp [results, Tryd.results17, go_sem, o0, o1, o2]) rfl (gotR_o HGE.out HV1.out HV2.out HUS.out ?_ (below_set3 HB.out (Nat.le_refl _) _ _ _))
            obtain ⟨a2, c2', e, hu⟩ := HR.out.is
            simp only [Value.slice.injEq, true_and] at e
            obtain ⟨rfl, rfl⟩ := e
            refine isUs_kept hu (row := some w.heap.size) (grown_trans (grown_trans (grown_set _ _ _ _) (grown_set _ _ _ _)) (grown_set _ _ _ _)) ?_
            intro b off e
            subst e
            have := (World.ownsRow.lt HR.out b rfl).1
            simp; omega
          · have HGE := Lib.hid hge
            have k1 : (geE s == 0) = false := by rw [beq_eq_false_iff_ne]; exact hge
            generalize hgg : geE s = ge at *
            have HGG := Lib.hid hgg
            clear hge hgg
            go_wp2_with fail
            refine HC.out.mono ?_
            rintro y w2 ⟨rfl, hr, hgr⟩
            have hl2 := HL.out.read hr hgr
            have o0 := hl2.g.res.c0
            have o1 := hl2.g.res.c1
            have o2 := hl2.g.res.c2
            have g0 := hl2.g.res.f0 0
            have g1 := hl2.g.res.f0 1
            have g2 := hl2.g.res.f0 2
            have n0 := hl2.g.non.c0
            have n1 := hl2.g.non.c1
            have n2 := hl2.g.non.c2
            have HB := Lib.hid hl2.g.bel
            clear hr hgr hl2 HC HL
            go_wp2
            refine bodyPost_ret (v := .tuple #[.agg #[.int .i64 0, .int .i64 0, .slice none 0 0], .int .i64 ge]) (by simp [results, Tryd.results17, go_sem, o0, o1, o2]) rfl (gotR_z HGG.out HGE.out (below_set3 HB.out (Nat.le_refl _) _ _ _))
end Go.Proofs.YtcknklodnfabpaaDoor
