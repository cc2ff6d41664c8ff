/- The document's Take. -/
import Derived.Test.YtbbgibekplfacaaDoorRH
import Derived.Test.YtbbgibekplfacaaDoorN9
import Derived.Test.YtbbgibekplfacaaDoorN7
namespace Go.Proofs.YtbbgibekplfacaaDoor
open Go Go.RowKit
set_option maxRecDepth 20000
theorem rsM_row {w w8 : World} {M : Nat → Prop} {a2 : Option Addr} {n c2 : Nat} {rs : List Rn} (hrow : RowR w.heap.size w8 (.slice a2 n c2) rs) (hn : n = rs.length) (hru : ∀ r ∈ rs, Ru w8 r) (hm : ∀ r ∈ rs, 0 < r.len → ∀ g off, r.a = some ⟨g, off, none⟩ → M g) (hw : ∀ x, w.heap.size ≤ x → x < w8.heap.size → M x) : RsM w8 M a2 n c2 rs := by
  obtain ⟨hx, hc, hnn⟩ := hrow.isR hn hru
  refine ⟨hx, hc, hnn, fun _ g off e => ?_, hm⟩
  subst e
  obtain ⟨hlo, cur, hcur⟩ := hrow.typ g rfl
  exact hw g hlo (Array.getElem?_eq_some_iff.1 hcur).1
/-- How it stands when it returns: w0 ahead of the known row's copy. -/
theorem et_fin {B b jb : Nat} {w w0 w8 : World} {FJ M M0 : Nat → Prop} {ak ap ap0 ao : Option Addr} {lk ck lp cp lp0 cp0 lo co : Nat} {rk rp rp0 : List Rn} {pd : List (List Up)} {s s0 : Cs} {r : Rn} {a2 : Option Addr} {c2 : Nat} (hq : Dq B w b jb FJ M ak lk ck rk ap lp cp rp pd ao lo co s) (hq0 : Dq B w0 b jb FJ M0 ak rk.length ck rk ap0 lp0 cp0 rp0 (s0.uss.drop s0.k) ao lo co s0) (hM : ∀ x, M0 x → M x ∨ w.heap.size ≤ x) (hlv : Lv w w0 fun x => x = b) (hru : Ru w0 r) (hrm : 0 < r.len → ∀ g off, r.a = some ⟨g, off, none⟩ → M0 g) (hb : Below w0.heap.size w0 w8) (hrow : RowR w0.heap.size w8 (.slice a2 (rk.length + 1) c2) (rk ++ [r])) :
    ∃ D', DkW B w (w8.setCell ⟨b, 4, none⟩ (.slice a2 (rk.length + 1) c2)) b (Df b FJ M) D' { s0 with kn := s0.kn ++ [kR r] } := by
  have h2 := hq0.grow hb
  have hrs := rsM_row (M := Mn M0 w0 w8) hrow (by simp) (fun x hx => by
    rcases List.mem_append.1 hx with hx | hx
    · exact h2.kr.is.each x hx
    · rw [List.mem_singleton.1 hx]; exact hru.below hb) (fun x hx h0 g off e => by
    rcases List.mem_append.1 hx with hx | hx
    · exact h2.kr.each x hx h0 g off e
    · rw [List.mem_singleton.1 hx] at e h0
      exact .inl (hrm h0 g off e)) fun x h1 h2 => .inr ⟨h1, h2⟩
  have h3 := h2.setK hrs
  have e1 : (rk ++ [r]).map kR = s0.kn ++ [kR r] := by rw [List.map_append, hq0.km]; rfl
  rw [e1] at h3
  have hl := (hlv.trans (Lv.ofBelow hb (fun x => x = b))).trans (Lv.set (F := fun x => x = b) rfl 4 (.slice a2 (rk.length + 1) c2))
  refine ⟨_, ⟨jb, FJ, _, a2, rk.length + 1, c2, rk ++ [r], ap0, lp0, cp0, rp0, ao, lo, co, h3, rfl⟩, ⟨hl.os, hl.tape, hl.output, hl.size, fun x hx hn => hl.block x hx fun e => hn ⟨by rw [e]; exact hq.hB, .inr (.inl e)⟩⟩, fun x hx => ?_⟩
  rcases hx with hx | hx | hx
  · rcases hx with hx | hx
    · rcases hM x hx with hy | hy
      · exact .inl (.inl hy)
      · exact .inr hy
    · exact .inr (Nat.le_trans hlv.size hx.1)
  · exact .inl (.inr (.inl hx))
  · exact .inl (.inr (.inr hx))
theorem Rn.us_in {w : World} {r : Rn} (h : Ru w r) (h0 : 0 < r.len) {g off : Nat} (e : r.a = some ⟨g, off, none⟩) : g < w.heap.size := by
  have hl := h.1
  rw [e] at hl
  obtain ⟨b', off', e2, hf⟩ := hl.lies h0
  cases e2
  exact hf.lt (by rw [hl.size]; exact h0)
section
variable {B b jb : Nat} {FJ M : Nat → Prop} {ak ap ao : Option Addr} {ck cp lo co : Nat} {rk rp : List Rn} {s : Cs}
set_option maxHeartbeats 8000000 in
theorem dtake_none (o n : Int) (a : Option Addr) (cap : Nat) (us : List Up) (ho : o = s.o) (hk : rp.length = 0) (w : World) (hq : Dq B w b jb FJ M ak rk.length ck rk ap rp.length cp rp (s.uss.drop s.k) ao lo co s) :
    Calls Tryd.prog 37 #[.pointer (some ⟨b, 0, none⟩), .agg #[.int .i64 o, .int .i64 n, .slice a us.length cap]] w fun e w' => e = .returned (.int .i64 10) ∧ Below w.heap.size w w' := by
  have hA := Joins.below_alloc1 w (.cells #[.int .i64 o, .int .i64 n, .slice a us.length cap] 35)
  have hr := Rb.new w o n a us.length cap
  have d0 := hr.c0
  have d1 := hr.c1
  have d2 := hr.c2
  have c1 := (hq.next hA).c1
  have HA := Lib.hid hA
  have q1 : (o == s.o) = true := beq_iff_eq.2 ho
  have c5 := (hq.next hA).c5
  rw [hk] at c5
  clear hq hA hr ho hk
  go_enter Tryd.func37, Tryd.ntmps37
  go_wp2_with fail
  go_quiet (fail)
  go_wp2_with fail
  go_quiet (fail)
  go_wp2
  go_ret
  exact ⟨rfl, belN (belN HA.out _) _⟩
set_option maxHeartbeats 8000000 in
theorem dtake_bad (o n : Int) (a : Option Addr) (cap : Nat) (us : List Up) (ho : o = s.o) (hk : 0 < rp.length) (hb : ¬ (rp.getD 0 rn0).n = n) (w : World) (hq : Dq B w b jb FJ M ak rk.length ck rk ap rp.length cp rp (s.uss.drop s.k) ao lo co s) :
    Calls Tryd.prog 37 #[.pointer (some ⟨b, 0, none⟩), .agg #[.int .i64 o, .int .i64 n, .slice a us.length cap]] w fun e w' => e = .returned (.int .i64 10) ∧ Below w.heap.size w w' := by
  have hA := Joins.below_alloc1 w (.cells #[.int .i64 o, .int .i64 n, .slice a us.length cap] 35)
  have hr := Rb.new w o n a us.length cap
  have d0 := hr.c0
  have d1 := hr.c1
  have d2 := hr.c2
  have c1 := (hq.next hA).c1
  have HA := Lib.hid hA
  have q1 : (o == s.o) = true := beq_iff_eq.2 ho
  have q2 : ((rp.length : Int) == 0) = false := beq_false_of_ne (by omega)
  have q4 : (0 : Int) < (rp.length : Int) := by omega
  have c5 := (hq.next hA).c5
  obtain ⟨g, off, rfl, _, x1, _, _⟩ := rcells_of hq.pr.is hA hk
  rw [Nat.zero_mul, Nat.add_zero] at x1
  have q3 : ((rp.getD 0 rn0).n != n) = true := by rw [bne_iff_ne]; exact hb
  generalize (rp.getD 0 rn0).n = N at *
  clear hq hA hr ho hk hb
  go_enter Tryd.func37, Tryd.ntmps37
  go_wp2_with fail
  go_quiet (fail)
  go_wp2_with fail
  go_quiet (fail)
  go_wp2
  go_ret
  exact ⟨rfl, belN (belN HA.out _) _⟩
set_option maxHeartbeats 8000000 in
theorem dtake_other (o n : Int) (a : Option Addr) (cap : Nat) (us : List Up) (hkl : rk.length ≤ 1000) (hrm : 0 < us.length → ∀ g off, a = some ⟨g, off, none⟩ → M g) (ho : ¬ o = s.o) (w : World) (hu : Ru w ⟨o, n, a, us.length, cap, us⟩) (hq : Dq B w b jb FJ M ak rk.length ck rk ap rp.length cp rp (s.uss.drop s.k) ao lo co s) :
    Calls Tryd.prog 37 #[.pointer (some ⟨b, 0, none⟩), .agg #[.int .i64 o, .int .i64 n, .slice a us.length cap]] w fun e w' => e = .returned (.int .i64 0) ∧ ∃ D', DkW B w w' b (Df b FJ M) D' { s with kn := s.kn ++ [(o, n, us)] } := by
  have hA := Joins.below_alloc1 w (.cells #[.int .i64 o, .int .i64 n, .slice a us.length cap] 35)
  have hr := Rb.new w o n a us.length cap
  have d0 := hr.c0
  have d1 := hr.c1
  have d2 := hr.c2
  have c1 := (hq.next hA).c1
  have HA := Lib.hid hA
  have HQ := Lib.hid hq
  have HU := Lib.hid hu
  have HR := Lib.hid hr
  have HKB := Lib.hid hkl
  have HRM := Lib.hid hrm
  have HLT := Lib.hid hq.lt
  have HNB : Hid (w.heap.size ≠ b) := Lib.hid (by have := hq.lt; omega)
  have q1 : (o == s.o) = false := beq_false_of_ne ho
  clear hq hA hr hu ho hkl hrm
  go_enter Tryd.func37, Tryd.ntmps37
  go_wp2_with fail
  go_quiet (fail)
  revert nq
  intro n1
  go_upto_region 5 with fail
  have HQ0 : Hid (Dq B ((w.alloc (.cells #[.int .i64 o, .int .i64 n, .slice a us.length cap] 35)).drewN n1) b jb FJ M ak rk.length ck rk ap rp.length cp rp (s.uss.drop s.k) ao lo co s) := Lib.hid (HQ.out.next (belN HA.out n1))
  have HR0 : Hid (Rb ((w.alloc (.cells #[.int .i64 o, .int .i64 n, .slice a us.length cap] 35)).drewN n1) w.heap.size o n a us.length cap) := Lib.hid (HR.out.drewN n1)
  have HLV0 : Hid (Lv w ((w.alloc (.cells #[.int .i64 o, .int .i64 n, .slice a us.length cap] 35)).drewN n1) fun x => x = b) := Lib.hid (Lv.ofBelow (belN HA.out n1) _)
  have HRU0 : Hid (Ru ((w.alloc (.cells #[.int .i64 o, .int .i64 n, .slice a us.length cap] 35)).drewN n1) ⟨o, n, a, us.length, cap, us⟩) := Lib.hid (HU.out.below (belN HA.out n1))
  have HM0 : Hid (∀ x, M x → M x ∨ w.heap.size ≤ x) := Lib.hid fun x hx => .inl hx
  have HRM0 := HRM
  generalize (w.alloc (.cells #[.int .i64 o, .int .i64 n, .slice a us.length cap] 35)).drewN n1 = w0 at *
  clear c1 d0 d1 d2 HA HR HU
  have HXP := Lib.hid HQ0.out.kr.is.at
  have HCN := Lib.hid (And.intro HQ0.out.kr.hc HQ0.out.kr.hn)
  have HW0 : Hid (Below w0.heap.size w0 w0.drew) := Lib.hid (Below.refl w0.heap.size w0).drew
  have HK7 : Hid (∀ W, Below w0.heap.size w0 W → W.cell? ⟨w.heap.size, 0, none⟩ = some (.int .i64 o) ∧ W.cell? ⟨w.heap.size, 1, none⟩ = some (.int .i64 n) ∧ W.cell? ⟨w.heap.size, 2, none⟩ = some (.slice a us.length cap)) := Lib.hid fun W hW => ⟨(HR0.out.next hW).c0, (HR0.out.next hW).c1, (HR0.out.next hW).c2⟩
  have hk0 := HK7.out _ HW0.out
  have ck0 : w0.cell? ⟨b, 4, none⟩ = some (.slice ak rk.length ck) := HQ0.out.c4
  go_wp2_with fail
  refine wp_region_held_drew (S := fun w' => w'.cell? ⟨w.heap.size, 0, none⟩ = some (.int .i64 o) ∧ w'.cell? ⟨w.heap.size, 1, none⟩ = some (.int .i64 n) ∧ w'.cell? ⟨w.heap.size, 2, none⟩ = some (.slice a us.length cap)) (by kernel_rfl) ?_ (fun hH => ?_)
  · exact hk0
  refine tkH 0 ?_ ?_ ?_
  rotate_left
  · intro w h; try dsimp only at h
    obtain ⟨q0, q1, q2⟩ := h; go_simp; all_goals with_reducible rfl
  try simp only [pt]
  refine tkH 2 ?_ ?_ ?_
  rotate_left
  · intro w h; try dsimp only at h
    obtain ⟨q0, q1, q2⟩ := h; go_simp; all_goals with_reducible rfl
  try simp only [pt]
  refine tkH 3 ?_ ?_ ?_
  rotate_left
  · intro w h; try dsimp only at h
    obtain ⟨q0, q1, q2⟩ := h; go_simp; all_goals with_reducible rfl
  try simp only [pt]
  refine tkH 4 ?_ ?_ ?_
  rotate_left
  · intro w h; try dsimp only at h
    obtain ⟨q0, q1, q2⟩ := h; go_simp; all_goals with_reducible rfl
  try simp only [pt]
  refine tkH 7 ?_ ?_ ?_
  rotate_left
  · intro w h; try dsimp only at h
    obtain ⟨q0, q1, q2⟩ := h; go_simp; all_goals with_reducible rfl
  try simp only [pt]
  refine wpAnyH_ready (rs := [1, 5, 8]) (by kernel_rfl) (by simp) ?_
  refine rdH (fun K hK => ?_) ?_
  · go_simp
    have HW1 : Hid (Below w0.heap.size w0 (w0.drew.alloc (.cells #[] 35))) := Lib.hid (Below.step HW0.out (.cells #[] 35) (Below.refl _ _))
    have hk1 := HK7.out _ HW1.out
    have ck1 : (w0.alloc (.cells #[] 35)).cell? ⟨b, 4, none⟩ = some (.slice ak rk.length ck) := (HQ0.out.next HW1.out).c4
    have HROW : Hid (RowR w0.heap.size (w0.drew.alloc (.cells #[] 35)) (.slice (some ⟨w0.heap.size, 0, none⟩) 0 0) []) := Lib.hid (by
      have := RowR.lower (rowR_new w0.drew) (show w0.heap.size ≤ w0.drew.heap.size by simp)
      rw [show w0.drew.heap.size = w0.heap.size by simp] at this
      exact this)
    refine hK.out _ _ ?_ (fun hH => ?_)
    · exact hk1
    clear hK K
    try simp only [pt]
    refine wpAnyH_ready (rs := [5, 8]) (by kernel_rfl) (by simp) ?_
    refine rdH (fun K hK => ?_) ?_
    · go_simp
      refine hK.out _ _ ?_ (fun hH => ?_)
      · exact hk1
      clear hK K
      try simp only [pt]
      refine wpAnyH_ready (rs := [6, 8]) (by kernel_rfl) (by simp) ?_
      refine rdH (fun K hK => ?_) ?_
      · obtain ⟨a1, c1', w6, hrun, hrw6, hgr6, _⟩ := run_appR (w0.drew.alloc (.cells #[] 35)) 40 w0.heap.size _ [] HROW.out ak rk.length ck rk (rsAt_below HXP.out HW1.out) HCN.out.1 HCN.out.2 (by have := HKB.out; simp; omega) HW1.out.size
        simp only [List.length_nil, Nat.zero_add, List.nil_append] at hrun hrw6
        have HW2 := Lib.hid (belR HROW.out HW1.out hgr6 HW1.out.size)
        have hk2 := HK7.out _ HW2.out
        have HROW1 := Lib.hid hrw6
        have ck2 : w6.cell? ⟨b, 4, none⟩ = some (.slice ak rk.length ck) := (HQ0.out.next HW2.out).c4
        clear hrw6 hgr6
        refine step_append_run (by rfl) (.tmp 41) (.tmp 45) 40 rfl _ _ _ rfl rfl hrun ?_
        refine hK.out _ _ ?_ (fun hH => ?_)
        · exact hk2
        clear hK K
        try simp only [pt]
        refine wpAnyH_ready (rs := [8]) (by kernel_rfl) (by simp) ?_
        refine rdH (fun K hK => ?_) ?_
        · go_simp
          have HW3 : Hid (Below w0.heap.size w0 (w6.alloc (.cells #[.int .i64 o, .int .i64 n, .slice a us.length cap] 35))) := Lib.hid (Below.step HW2.out (.cells #[.int .i64 o, .int .i64 n, .slice a us.length cap] 35) (Below.refl _ _))
          have hk3 := HK7.out _ HW3.out
          have ck3 : (w6.alloc (.cells #[.int .i64 o, .int .i64 n, .slice a us.length cap] 35)).cell? ⟨b, 4, none⟩ = some (.slice ak rk.length ck) := (HQ0.out.next HW3.out).c4
          have HONE : Hid (RsAt (w6.alloc (.cells #[.int .i64 o, .int .i64 n, .slice a us.length cap] 35)) (some ⟨w6.heap.size, 0, none⟩) 1 [⟨o, n, a, us.length, cap, us⟩]) := Lib.hid (by
            have := rsAt_one w6 ⟨o, n, a, us.length, cap, us⟩
            exact this)
          have HROW1 := Lib.hid (HROW1.out.alloc (.cells #[.int .i64 o, .int .i64 n, .slice a us.length cap] 35))
          refine hK.out _ _ ?_ (fun hH => ?_)
          · exact hk3
          clear hK K
          try simp only [pt]
          refine wpAnyH_ready (rs := [9]) (by kernel_rfl) (by simp) ?_
          refine rdH (fun K hK => ?_) ?_
          · obtain ⟨a2, c2, w8, hrun9, hrw8, hgr8, _⟩ := run_appR (w6.alloc (.cells #[.int .i64 o, .int .i64 n, .slice a us.length cap] 35)) 40 w0.heap.size _ rk HROW1.out (some ⟨w6.heap.size, 0, none⟩) 1 1 [⟨o, n, a, us.length, cap, us⟩] HONE.out (Nat.le_refl _) (fun e => by cases e) (by have := HKB.out; omega) HW3.out.size
            have HW8 := Lib.hid (belR HROW1.out HW3.out hgr8 HW3.out.size)
            have hk9 := HK7.out _ HW8.out
            have HROW2 := Lib.hid hrw8
            clear hrw8 hgr8
            refine step_append_run (by rfl) (.tmp 46) (.tmp 48) 40 rfl _ _ _ rfl rfl hrun9 ?_
            refine hK.out _ _ ?_ (fun hH => ?_)
            · exact hk9
            clear hK K
            try simp only [pt]
            refine tkH 10 ?_ ?_ ?_
            rotate_left
            · intro w h; try dsimp only at h
              obtain ⟨q0, q1, q2⟩ := h; go_simp; all_goals with_reducible rfl
            try simp only [pt]
            refine tkH 11 ?_ ?_ ?_
            rotate_left
            · intro w h; try dsimp only at h
              obtain ⟨q0, q1, q2⟩ := h; go_simp; all_goals with_reducible rfl
            try simp only [pt]
            refine wpAnyH_ready (rs := [12]) (by kernel_rfl) (by simp) ?_
            refine rdH (fun K hK => ?_) ?_
            · have hrb9 := (HR0.out.next HW8.out).setnew HNB.out 4 (.slice a2 (rk.length + 1) c2)
              have hs9 : (w8.setCell ⟨b, 4, none⟩ (.slice a2 (rk.length + 1) c2)).cell? ⟨w.heap.size, 0, none⟩ = some (.int .i64 o) ∧ (w8.setCell ⟨b, 4, none⟩ (.slice a2 (rk.length + 1) c2)).cell? ⟨w.heap.size, 1, none⟩ = some (.int .i64 n) ∧ (w8.setCell ⟨b, 4, none⟩ (.slice a2 (rk.length + 1) c2)).cell? ⟨w.heap.size, 2, none⟩ = some (.slice a us.length cap) := ⟨hrb9.c0, hrb9.c1, hrb9.c2⟩
              have gb := (HQ0.out.next HW8.out).f0 4
              have ck9 : w8.cell? ⟨b, 4, none⟩ = some (.slice ak rk.length ck) := (HQ0.out.next HW8.out).c4
              clear hrb9
              go_simp
              refine hK.out _ _ ?_ (fun hH => ?_)
              · exact hs9
              clear hK K
              try simp only [pt]
              refine wpAnyH_done (by kernel_rfl) ?_ _
              have HFIN := Lib.hid (et_fin (r := ⟨o, n, a, us.length, cap, us⟩) (s0 := s) HQ.out HQ0.out HM0.out HLV0.out HRU0.out HRM0.out HW8.out HROW2.out)
              clear hs9 HK7 hrun hrun9 hk0 hk9
              go_wp2
              go_ret
              exact ⟨rfl, HFIN.out⟩
            exact AllReadyH.nil
          exact AllReadyH.nil
        exact AllReadyH.nil
      refine rdH (fun K hK => ?_) ?_
      · go_simp
        have HW2 : Hid (Below w0.heap.size w0 ((w0.drew.alloc (.cells #[] 35)).alloc (.cells #[.int .i64 o, .int .i64 n, .slice a us.length cap] 35))) := Lib.hid (Below.step HW1.out (.cells #[.int .i64 o, .int .i64 n, .slice a us.length cap] 35) (Below.refl _ _))
        have hk2 := HK7.out _ HW2.out
        have ck2 : ((w0.alloc (.cells #[] 35)).alloc (.cells #[.int .i64 o, .int .i64 n, .slice a us.length cap] 35)).cell? ⟨b, 4, none⟩ = some (.slice ak rk.length ck) := (HQ0.out.next HW2.out).c4
        have HONE : Hid (RsAt ((w0.drew.alloc (.cells #[] 35)).alloc (.cells #[.int .i64 o, .int .i64 n, .slice a us.length cap] 35)) (some ⟨w0.heap.size + 1, 0, none⟩) 1 [⟨o, n, a, us.length, cap, us⟩]) := Lib.hid (by
          have := rsAt_one (w0.drew.alloc (.cells #[] 35)) ⟨o, n, a, us.length, cap, us⟩
          rw [show (w0.drew.alloc (.cells #[] 35)).heap.size = w0.heap.size + 1 by simp] at this
          exact this)
        have HROW := Lib.hid (HROW.out.alloc (.cells #[.int .i64 o, .int .i64 n, .slice a us.length cap] 35))
        refine hK.out _ _ ?_ (fun hH => ?_)
        · exact hk2
        clear hK K
        try simp only [pt]
        refine wpAnyH_ready (rs := [6]) (by kernel_rfl) (by simp) ?_
        refine rdH (fun K hK => ?_) ?_
        · obtain ⟨a1, c1', w6, hrun, hrw6, hgr6, _⟩ := run_appR ((w0.drew.alloc (.cells #[] 35)).alloc (.cells #[.int .i64 o, .int .i64 n, .slice a us.length cap] 35)) 40 w0.heap.size _ [] HROW.out ak rk.length ck rk (rsAt_below HXP.out HW2.out) HCN.out.1 HCN.out.2 (by have := HKB.out; simp; omega) HW2.out.size
          simp only [List.length_nil, Nat.zero_add, List.nil_append] at hrun hrw6
          have HW3 := Lib.hid (belR HROW.out HW2.out hgr6 HW2.out.size)
          have hk3 := HK7.out _ HW3.out
          have HROW1 := Lib.hid hrw6
          have ck3 : w6.cell? ⟨b, 4, none⟩ = some (.slice ak rk.length ck) := (HQ0.out.next HW3.out).c4
          have HONE := Lib.hid (rsAt_keep HONE.out fun _ g off e => hgr6.block g (by cases e; first | (simp; done) | (simp; omega)) (by cases e; simp [Value.ownBlock]))
          clear hrw6 hgr6
          refine step_append_run (by rfl) (.tmp 41) (.tmp 45) 40 rfl _ _ _ rfl rfl hrun ?_
          refine hK.out _ _ ?_ (fun hH => ?_)
          · exact hk3
          clear hK K
          try simp only [pt]
          refine wpAnyH_ready (rs := [9]) (by kernel_rfl) (by simp) ?_
          refine rdH (fun K hK => ?_) ?_
          · obtain ⟨a2, c2, w8, hrun9, hrw8, hgr8, _⟩ := run_appR w6 40 w0.heap.size _ rk HROW1.out (some ⟨w0.heap.size + 1, 0, none⟩) 1 1 [⟨o, n, a, us.length, cap, us⟩] HONE.out (Nat.le_refl _) (fun e => by cases e) (by have := HKB.out; omega) HW3.out.size
            have HW8 := Lib.hid (belR HROW1.out HW3.out hgr8 HW3.out.size)
            have hk9 := HK7.out _ HW8.out
            have HROW2 := Lib.hid hrw8
            clear hrw8 hgr8
            refine step_append_run (by rfl) (.tmp 46) (.tmp 48) 40 rfl _ _ _ rfl rfl hrun9 ?_
            refine hK.out _ _ ?_ (fun hH => ?_)
            · exact hk9
            clear hK K
            try simp only [pt]
            refine tkH 10 ?_ ?_ ?_
            rotate_left
            · intro w h; try dsimp only at h
              obtain ⟨q0, q1, q2⟩ := h; go_simp; all_goals with_reducible rfl
            try simp only [pt]
            refine tkH 11 ?_ ?_ ?_
            rotate_left
            · intro w h; try dsimp only at h
              obtain ⟨q0, q1, q2⟩ := h; go_simp; all_goals with_reducible rfl
            try simp only [pt]
            refine wpAnyH_ready (rs := [12]) (by kernel_rfl) (by simp) ?_
            refine rdH (fun K hK => ?_) ?_
            · have hrb9 := (HR0.out.next HW8.out).setnew HNB.out 4 (.slice a2 (rk.length + 1) c2)
              have hs9 : (w8.setCell ⟨b, 4, none⟩ (.slice a2 (rk.length + 1) c2)).cell? ⟨w.heap.size, 0, none⟩ = some (.int .i64 o) ∧ (w8.setCell ⟨b, 4, none⟩ (.slice a2 (rk.length + 1) c2)).cell? ⟨w.heap.size, 1, none⟩ = some (.int .i64 n) ∧ (w8.setCell ⟨b, 4, none⟩ (.slice a2 (rk.length + 1) c2)).cell? ⟨w.heap.size, 2, none⟩ = some (.slice a us.length cap) := ⟨hrb9.c0, hrb9.c1, hrb9.c2⟩
              have gb := (HQ0.out.next HW8.out).f0 4
              have ck9 : w8.cell? ⟨b, 4, none⟩ = some (.slice ak rk.length ck) := (HQ0.out.next HW8.out).c4
              clear hrb9
              go_simp
              refine hK.out _ _ ?_ (fun hH => ?_)
              · exact hs9
              clear hK K
              try simp only [pt]
              refine wpAnyH_done (by kernel_rfl) ?_ _
              have HFIN := Lib.hid (et_fin (r := ⟨o, n, a, us.length, cap, us⟩) (s0 := s) HQ.out HQ0.out HM0.out HLV0.out HRU0.out HRM0.out HW8.out HROW2.out)
              clear hs9 HK7 hrun hrun9 hk0 hk9
              go_wp2
              go_ret
              exact ⟨rfl, HFIN.out⟩
            exact AllReadyH.nil
          exact AllReadyH.nil
        exact AllReadyH.nil
      exact AllReadyH.nil
    refine rdH (fun K hK => ?_) ?_
    · go_simp
      have HW2 : Hid (Below w0.heap.size w0 ((w0.drew.alloc (.cells #[] 35)).alloc (.cells #[.int .i64 o, .int .i64 n, .slice a us.length cap] 35))) := Lib.hid (Below.step HW1.out (.cells #[.int .i64 o, .int .i64 n, .slice a us.length cap] 35) (Below.refl _ _))
      have hk2 := HK7.out _ HW2.out
      have ck2 : ((w0.alloc (.cells #[] 35)).alloc (.cells #[.int .i64 o, .int .i64 n, .slice a us.length cap] 35)).cell? ⟨b, 4, none⟩ = some (.slice ak rk.length ck) := (HQ0.out.next HW2.out).c4
      have HONE : Hid (RsAt ((w0.drew.alloc (.cells #[] 35)).alloc (.cells #[.int .i64 o, .int .i64 n, .slice a us.length cap] 35)) (some ⟨w0.heap.size + 1, 0, none⟩) 1 [⟨o, n, a, us.length, cap, us⟩]) := Lib.hid (by
        have := rsAt_one (w0.drew.alloc (.cells #[] 35)) ⟨o, n, a, us.length, cap, us⟩
        rw [show (w0.drew.alloc (.cells #[] 35)).heap.size = w0.heap.size + 1 by simp] at this
        exact this)
      have HROW := Lib.hid (HROW.out.alloc (.cells #[.int .i64 o, .int .i64 n, .slice a us.length cap] 35))
      refine hK.out _ _ ?_ (fun hH => ?_)
      · exact hk2
      clear hK K
      try simp only [pt]
      refine wpAnyH_ready (rs := [5]) (by kernel_rfl) (by simp) ?_
      refine rdH (fun K hK => ?_) ?_
      · go_simp
        refine hK.out _ _ ?_ (fun hH => ?_)
        · exact hk2
        clear hK K
        try simp only [pt]
        refine wpAnyH_ready (rs := [6]) (by kernel_rfl) (by simp) ?_
        refine rdH (fun K hK => ?_) ?_
        · obtain ⟨a1, c1', w6, hrun, hrw6, hgr6, _⟩ := run_appR ((w0.drew.alloc (.cells #[] 35)).alloc (.cells #[.int .i64 o, .int .i64 n, .slice a us.length cap] 35)) 40 w0.heap.size _ [] HROW.out ak rk.length ck rk (rsAt_below HXP.out HW2.out) HCN.out.1 HCN.out.2 (by have := HKB.out; simp; omega) HW2.out.size
          simp only [List.length_nil, Nat.zero_add, List.nil_append] at hrun hrw6
          have HW3 := Lib.hid (belR HROW.out HW2.out hgr6 HW2.out.size)
          have hk3 := HK7.out _ HW3.out
          have HROW1 := Lib.hid hrw6
          have ck3 : w6.cell? ⟨b, 4, none⟩ = some (.slice ak rk.length ck) := (HQ0.out.next HW3.out).c4
          have HONE := Lib.hid (rsAt_keep HONE.out fun _ g off e => hgr6.block g (by cases e; first | (simp; done) | (simp; omega)) (by cases e; simp [Value.ownBlock]))
          clear hrw6 hgr6
          refine step_append_run (by rfl) (.tmp 41) (.tmp 45) 40 rfl _ _ _ rfl rfl hrun ?_
          refine hK.out _ _ ?_ (fun hH => ?_)
          · exact hk3
          clear hK K
          try simp only [pt]
          refine wpAnyH_ready (rs := [9]) (by kernel_rfl) (by simp) ?_
          refine rdH (fun K hK => ?_) ?_
          · obtain ⟨a2, c2, w8, hrun9, hrw8, hgr8, _⟩ := run_appR w6 40 w0.heap.size _ rk HROW1.out (some ⟨w0.heap.size + 1, 0, none⟩) 1 1 [⟨o, n, a, us.length, cap, us⟩] HONE.out (Nat.le_refl _) (fun e => by cases e) (by have := HKB.out; omega) HW3.out.size
            have HW8 := Lib.hid (belR HROW1.out HW3.out hgr8 HW3.out.size)
            have hk9 := HK7.out _ HW8.out
            have HROW2 := Lib.hid hrw8
            clear hrw8 hgr8
            refine step_append_run (by rfl) (.tmp 46) (.tmp 48) 40 rfl _ _ _ rfl rfl hrun9 ?_
            refine hK.out _ _ ?_ (fun hH => ?_)
            · exact hk9
            clear hK K
            try simp only [pt]
            refine tkH 10 ?_ ?_ ?_
            rotate_left
            · intro w h; try dsimp only at h
              obtain ⟨q0, q1, q2⟩ := h; go_simp; all_goals with_reducible rfl
            try simp only [pt]
            refine tkH 11 ?_ ?_ ?_
            rotate_left
            · intro w h; try dsimp only at h
              obtain ⟨q0, q1, q2⟩ := h; go_simp; all_goals with_reducible rfl
            try simp only [pt]
            refine wpAnyH_ready (rs := [12]) (by kernel_rfl) (by simp) ?_
            refine rdH (fun K hK => ?_) ?_
            · have hrb9 := (HR0.out.next HW8.out).setnew HNB.out 4 (.slice a2 (rk.length + 1) c2)
              have hs9 : (w8.setCell ⟨b, 4, none⟩ (.slice a2 (rk.length + 1) c2)).cell? ⟨w.heap.size, 0, none⟩ = some (.int .i64 o) ∧ (w8.setCell ⟨b, 4, none⟩ (.slice a2 (rk.length + 1) c2)).cell? ⟨w.heap.size, 1, none⟩ = some (.int .i64 n) ∧ (w8.setCell ⟨b, 4, none⟩ (.slice a2 (rk.length + 1) c2)).cell? ⟨w.heap.size, 2, none⟩ = some (.slice a us.length cap) := ⟨hrb9.c0, hrb9.c1, hrb9.c2⟩
              have gb := (HQ0.out.next HW8.out).f0 4
              have ck9 : w8.cell? ⟨b, 4, none⟩ = some (.slice ak rk.length ck) := (HQ0.out.next HW8.out).c4
              clear hrb9
              go_simp
              refine hK.out _ _ ?_ (fun hH => ?_)
              · exact hs9
              clear hK K
              try simp only [pt]
              refine wpAnyH_done (by kernel_rfl) ?_ _
              have HFIN := Lib.hid (et_fin (r := ⟨o, n, a, us.length, cap, us⟩) (s0 := s) HQ.out HQ0.out HM0.out HLV0.out HRU0.out HRM0.out HW8.out HROW2.out)
              clear hs9 HK7 hrun hrun9 hk0 hk9
              go_wp2
              go_ret
              exact ⟨rfl, HFIN.out⟩
            exact AllReadyH.nil
          exact AllReadyH.nil
        exact AllReadyH.nil
      exact AllReadyH.nil
    exact AllReadyH.nil
  refine rdH (fun K hK => ?_) ?_
  · go_simp
    refine hK.out _ _ ?_ (fun hH => ?_)
    · exact hk0
    clear hK K
    try simp only [pt]
    refine wpAnyH_ready (rs := [1, 8]) (by kernel_rfl) (by simp) ?_
    refine rdH (fun K hK => ?_) ?_
    · go_simp
      have HW1 : Hid (Below w0.heap.size w0 (w0.drew.alloc (.cells #[] 35))) := Lib.hid (Below.step HW0.out (.cells #[] 35) (Below.refl _ _))
      have hk1 := HK7.out _ HW1.out
      have ck1 : (w0.alloc (.cells #[] 35)).cell? ⟨b, 4, none⟩ = some (.slice ak rk.length ck) := (HQ0.out.next HW1.out).c4
      have HROW : Hid (RowR w0.heap.size (w0.drew.alloc (.cells #[] 35)) (.slice (some ⟨w0.heap.size, 0, none⟩) 0 0) []) := Lib.hid (by
        have := RowR.lower (rowR_new w0.drew) (show w0.heap.size ≤ w0.drew.heap.size by simp)
        rw [show w0.drew.heap.size = w0.heap.size by simp] at this
        exact this)
      refine hK.out _ _ ?_ (fun hH => ?_)
      · exact hk1
      clear hK K
      try simp only [pt]
      refine wpAnyH_ready (rs := [6, 8]) (by kernel_rfl) (by simp) ?_
      refine rdH (fun K hK => ?_) ?_
      · obtain ⟨a1, c1', w6, hrun, hrw6, hgr6, _⟩ := run_appR (w0.drew.alloc (.cells #[] 35)) 40 w0.heap.size _ [] HROW.out ak rk.length ck rk (rsAt_below HXP.out HW1.out) HCN.out.1 HCN.out.2 (by have := HKB.out; simp; omega) HW1.out.size
        simp only [List.length_nil, Nat.zero_add, List.nil_append] at hrun hrw6
        have HW2 := Lib.hid (belR HROW.out HW1.out hgr6 HW1.out.size)
        have hk2 := HK7.out _ HW2.out
        have HROW1 := Lib.hid hrw6
        have ck2 : w6.cell? ⟨b, 4, none⟩ = some (.slice ak rk.length ck) := (HQ0.out.next HW2.out).c4
        clear hrw6 hgr6
        refine step_append_run (by rfl) (.tmp 41) (.tmp 45) 40 rfl _ _ _ rfl rfl hrun ?_
        refine hK.out _ _ ?_ (fun hH => ?_)
        · exact hk2
        clear hK K
        try simp only [pt]
        refine wpAnyH_ready (rs := [8]) (by kernel_rfl) (by simp) ?_
        refine rdH (fun K hK => ?_) ?_
        · go_simp
          have HW3 : Hid (Below w0.heap.size w0 (w6.alloc (.cells #[.int .i64 o, .int .i64 n, .slice a us.length cap] 35))) := Lib.hid (Below.step HW2.out (.cells #[.int .i64 o, .int .i64 n, .slice a us.length cap] 35) (Below.refl _ _))
          have hk3 := HK7.out _ HW3.out
          have ck3 : (w6.alloc (.cells #[.int .i64 o, .int .i64 n, .slice a us.length cap] 35)).cell? ⟨b, 4, none⟩ = some (.slice ak rk.length ck) := (HQ0.out.next HW3.out).c4
          have HONE : Hid (RsAt (w6.alloc (.cells #[.int .i64 o, .int .i64 n, .slice a us.length cap] 35)) (some ⟨w6.heap.size, 0, none⟩) 1 [⟨o, n, a, us.length, cap, us⟩]) := Lib.hid (by
            have := rsAt_one w6 ⟨o, n, a, us.length, cap, us⟩
            exact this)
          have HROW1 := Lib.hid (HROW1.out.alloc (.cells #[.int .i64 o, .int .i64 n, .slice a us.length cap] 35))
          refine hK.out _ _ ?_ (fun hH => ?_)
          · exact hk3
          clear hK K
          try simp only [pt]
          refine wpAnyH_ready (rs := [9]) (by kernel_rfl) (by simp) ?_
          refine rdH (fun K hK => ?_) ?_
          · obtain ⟨a2, c2, w8, hrun9, hrw8, hgr8, _⟩ := run_appR (w6.alloc (.cells #[.int .i64 o, .int .i64 n, .slice a us.length cap] 35)) 40 w0.heap.size _ rk HROW1.out (some ⟨w6.heap.size, 0, none⟩) 1 1 [⟨o, n, a, us.length, cap, us⟩] HONE.out (Nat.le_refl _) (fun e => by cases e) (by have := HKB.out; omega) HW3.out.size
            have HW8 := Lib.hid (belR HROW1.out HW3.out hgr8 HW3.out.size)
            have hk9 := HK7.out _ HW8.out
            have HROW2 := Lib.hid hrw8
            clear hrw8 hgr8
            refine step_append_run (by rfl) (.tmp 46) (.tmp 48) 40 rfl _ _ _ rfl rfl hrun9 ?_
            refine hK.out _ _ ?_ (fun hH => ?_)
            · exact hk9
            clear hK K
            try simp only [pt]
            refine tkH 10 ?_ ?_ ?_
            rotate_left
            · intro w h; try dsimp only at h
              obtain ⟨q0, q1, q2⟩ := h; go_simp; all_goals with_reducible rfl
            try simp only [pt]
            refine tkH 11 ?_ ?_ ?_
            rotate_left
            · intro w h; try dsimp only at h
              obtain ⟨q0, q1, q2⟩ := h; go_simp; all_goals with_reducible rfl
            try simp only [pt]
            refine wpAnyH_ready (rs := [12]) (by kernel_rfl) (by simp) ?_
            refine rdH (fun K hK => ?_) ?_
            · have hrb9 := (HR0.out.next HW8.out).setnew HNB.out 4 (.slice a2 (rk.length + 1) c2)
              have hs9 : (w8.setCell ⟨b, 4, none⟩ (.slice a2 (rk.length + 1) c2)).cell? ⟨w.heap.size, 0, none⟩ = some (.int .i64 o) ∧ (w8.setCell ⟨b, 4, none⟩ (.slice a2 (rk.length + 1) c2)).cell? ⟨w.heap.size, 1, none⟩ = some (.int .i64 n) ∧ (w8.setCell ⟨b, 4, none⟩ (.slice a2 (rk.length + 1) c2)).cell? ⟨w.heap.size, 2, none⟩ = some (.slice a us.length cap) := ⟨hrb9.c0, hrb9.c1, hrb9.c2⟩
              have gb := (HQ0.out.next HW8.out).f0 4
              have ck9 : w8.cell? ⟨b, 4, none⟩ = some (.slice ak rk.length ck) := (HQ0.out.next HW8.out).c4
              clear hrb9
              go_simp
              refine hK.out _ _ ?_ (fun hH => ?_)
              · exact hs9
              clear hK K
              try simp only [pt]
              refine wpAnyH_done (by kernel_rfl) ?_ _
              have HFIN := Lib.hid (et_fin (r := ⟨o, n, a, us.length, cap, us⟩) (s0 := s) HQ.out HQ0.out HM0.out HLV0.out HRU0.out HRM0.out HW8.out HROW2.out)
              clear hs9 HK7 hrun hrun9 hk0 hk9
              go_wp2
              go_ret
              exact ⟨rfl, HFIN.out⟩
            exact AllReadyH.nil
          exact AllReadyH.nil
        exact AllReadyH.nil
      refine rdH (fun K hK => ?_) ?_
      · go_simp
        have HW2 : Hid (Below w0.heap.size w0 ((w0.drew.alloc (.cells #[] 35)).alloc (.cells #[.int .i64 o, .int .i64 n, .slice a us.length cap] 35))) := Lib.hid (Below.step HW1.out (.cells #[.int .i64 o, .int .i64 n, .slice a us.length cap] 35) (Below.refl _ _))
        have hk2 := HK7.out _ HW2.out
        have ck2 : ((w0.alloc (.cells #[] 35)).alloc (.cells #[.int .i64 o, .int .i64 n, .slice a us.length cap] 35)).cell? ⟨b, 4, none⟩ = some (.slice ak rk.length ck) := (HQ0.out.next HW2.out).c4
        have HONE : Hid (RsAt ((w0.drew.alloc (.cells #[] 35)).alloc (.cells #[.int .i64 o, .int .i64 n, .slice a us.length cap] 35)) (some ⟨w0.heap.size + 1, 0, none⟩) 1 [⟨o, n, a, us.length, cap, us⟩]) := Lib.hid (by
          have := rsAt_one (w0.drew.alloc (.cells #[] 35)) ⟨o, n, a, us.length, cap, us⟩
          rw [show (w0.drew.alloc (.cells #[] 35)).heap.size = w0.heap.size + 1 by simp] at this
          exact this)
        have HROW := Lib.hid (HROW.out.alloc (.cells #[.int .i64 o, .int .i64 n, .slice a us.length cap] 35))
        refine hK.out _ _ ?_ (fun hH => ?_)
        · exact hk2
        clear hK K
        try simp only [pt]
        refine wpAnyH_ready (rs := [6]) (by kernel_rfl) (by simp) ?_
        refine rdH (fun K hK => ?_) ?_
        · obtain ⟨a1, c1', w6, hrun, hrw6, hgr6, _⟩ := run_appR ((w0.drew.alloc (.cells #[] 35)).alloc (.cells #[.int .i64 o, .int .i64 n, .slice a us.length cap] 35)) 40 w0.heap.size _ [] HROW.out ak rk.length ck rk (rsAt_below HXP.out HW2.out) HCN.out.1 HCN.out.2 (by have := HKB.out; simp; omega) HW2.out.size
          simp only [List.length_nil, Nat.zero_add, List.nil_append] at hrun hrw6
          have HW3 := Lib.hid (belR HROW.out HW2.out hgr6 HW2.out.size)
          have hk3 := HK7.out _ HW3.out
          have HROW1 := Lib.hid hrw6
          have ck3 : w6.cell? ⟨b, 4, none⟩ = some (.slice ak rk.length ck) := (HQ0.out.next HW3.out).c4
          have HONE := Lib.hid (rsAt_keep HONE.out fun _ g off e => hgr6.block g (by cases e; first | (simp; done) | (simp; omega)) (by cases e; simp [Value.ownBlock]))
          clear hrw6 hgr6
          refine step_append_run (by rfl) (.tmp 41) (.tmp 45) 40 rfl _ _ _ rfl rfl hrun ?_
          refine hK.out _ _ ?_ (fun hH => ?_)
          · exact hk3
          clear hK K
          try simp only [pt]
          refine wpAnyH_ready (rs := [9]) (by kernel_rfl) (by simp) ?_
          refine rdH (fun K hK => ?_) ?_
          · obtain ⟨a2, c2, w8, hrun9, hrw8, hgr8, _⟩ := run_appR w6 40 w0.heap.size _ rk HROW1.out (some ⟨w0.heap.size + 1, 0, none⟩) 1 1 [⟨o, n, a, us.length, cap, us⟩] HONE.out (Nat.le_refl _) (fun e => by cases e) (by have := HKB.out; omega) HW3.out.size
            have HW8 := Lib.hid (belR HROW1.out HW3.out hgr8 HW3.out.size)
            have hk9 := HK7.out _ HW8.out
            have HROW2 := Lib.hid hrw8
            clear hrw8 hgr8
            refine step_append_run (by rfl) (.tmp 46) (.tmp 48) 40 rfl _ _ _ rfl rfl hrun9 ?_
            refine hK.out _ _ ?_ (fun hH => ?_)
            · exact hk9
            clear hK K
            try simp only [pt]
            refine tkH 10 ?_ ?_ ?_
            rotate_left
            · intro w h; try dsimp only at h
              obtain ⟨q0, q1, q2⟩ := h; go_simp; all_goals with_reducible rfl
            try simp only [pt]
            refine tkH 11 ?_ ?_ ?_
            rotate_left
            · intro w h; try dsimp only at h
              obtain ⟨q0, q1, q2⟩ := h; go_simp; all_goals with_reducible rfl
            try simp only [pt]
            refine wpAnyH_ready (rs := [12]) (by kernel_rfl) (by simp) ?_
            refine rdH (fun K hK => ?_) ?_
            · have hrb9 := (HR0.out.next HW8.out).setnew HNB.out 4 (.slice a2 (rk.length + 1) c2)
              have hs9 : (w8.setCell ⟨b, 4, none⟩ (.slice a2 (rk.length + 1) c2)).cell? ⟨w.heap.size, 0, none⟩ = some (.int .i64 o) ∧ (w8.setCell ⟨b, 4, none⟩ (.slice a2 (rk.length + 1) c2)).cell? ⟨w.heap.size, 1, none⟩ = some (.int .i64 n) ∧ (w8.setCell ⟨b, 4, none⟩ (.slice a2 (rk.length + 1) c2)).cell? ⟨w.heap.size, 2, none⟩ = some (.slice a us.length cap) := ⟨hrb9.c0, hrb9.c1, hrb9.c2⟩
              have gb := (HQ0.out.next HW8.out).f0 4
              have ck9 : w8.cell? ⟨b, 4, none⟩ = some (.slice ak rk.length ck) := (HQ0.out.next HW8.out).c4
              clear hrb9
              go_simp
              refine hK.out _ _ ?_ (fun hH => ?_)
              · exact hs9
              clear hK K
              try simp only [pt]
              refine wpAnyH_done (by kernel_rfl) ?_ _
              have HFIN := Lib.hid (et_fin (r := ⟨o, n, a, us.length, cap, us⟩) (s0 := s) HQ.out HQ0.out HM0.out HLV0.out HRU0.out HRM0.out HW8.out HROW2.out)
              clear hs9 HK7 hrun hrun9 hk0 hk9
              go_wp2
              go_ret
              exact ⟨rfl, HFIN.out⟩
            exact AllReadyH.nil
          exact AllReadyH.nil
        exact AllReadyH.nil
      exact AllReadyH.nil
    refine rdH (fun K hK => ?_) ?_
    · go_simp
      have HW1 : Hid (Below w0.heap.size w0 (w0.drew.alloc (.cells #[.int .i64 o, .int .i64 n, .slice a us.length cap] 35))) := Lib.hid (Below.step HW0.out (.cells #[.int .i64 o, .int .i64 n, .slice a us.length cap] 35) (Below.refl _ _))
      have hk1 := HK7.out _ HW1.out
      have ck1 : (w0.alloc (.cells #[.int .i64 o, .int .i64 n, .slice a us.length cap] 35)).cell? ⟨b, 4, none⟩ = some (.slice ak rk.length ck) := (HQ0.out.next HW1.out).c4
      have HONE : Hid (RsAt (w0.drew.alloc (.cells #[.int .i64 o, .int .i64 n, .slice a us.length cap] 35)) (some ⟨w0.heap.size, 0, none⟩) 1 [⟨o, n, a, us.length, cap, us⟩]) := Lib.hid (by
        have := rsAt_one w0.drew ⟨o, n, a, us.length, cap, us⟩
        rw [show w0.drew.heap.size = w0.heap.size by simp] at this
        exact this)
      refine hK.out _ _ ?_ (fun hH => ?_)
      · exact hk1
      clear hK K
      try simp only [pt]
      refine wpAnyH_ready (rs := [1]) (by kernel_rfl) (by simp) ?_
      refine rdH (fun K hK => ?_) ?_
      · go_simp
        have HW2 : Hid (Below w0.heap.size w0 ((w0.drew.alloc (.cells #[.int .i64 o, .int .i64 n, .slice a us.length cap] 35)).alloc (.cells #[] 35))) := Lib.hid (Below.step HW1.out (.cells #[] 35) (Below.refl _ _))
        have hk2 := HK7.out _ HW2.out
        have ck2 : ((w0.alloc (.cells #[.int .i64 o, .int .i64 n, .slice a us.length cap] 35)).alloc (.cells #[] 35)).cell? ⟨b, 4, none⟩ = some (.slice ak rk.length ck) := (HQ0.out.next HW2.out).c4
        have HROW : Hid (RowR w0.heap.size ((w0.drew.alloc (.cells #[.int .i64 o, .int .i64 n, .slice a us.length cap] 35)).alloc (.cells #[] 35)) (.slice (some ⟨w0.heap.size + 1, 0, none⟩) 0 0) []) := Lib.hid (by
          have := RowR.lower (rowR_new (w0.drew.alloc (.cells #[.int .i64 o, .int .i64 n, .slice a us.length cap] 35))) (show w0.heap.size ≤ (w0.drew.alloc (.cells #[.int .i64 o, .int .i64 n, .slice a us.length cap] 35)).heap.size by simp)
          rw [show (w0.drew.alloc (.cells #[.int .i64 o, .int .i64 n, .slice a us.length cap] 35)).heap.size = w0.heap.size + 1 by simp] at this
          exact this)
        have HONE := Lib.hid (rsAt_below (w' := ((w0.drew.alloc (.cells #[.int .i64 o, .int .i64 n, .slice a us.length cap] 35)).alloc (.cells #[] 35))) HONE.out (Joins.below_alloc1 _ _))
        refine hK.out _ _ ?_ (fun hH => ?_)
        · exact hk2
        clear hK K
        try simp only [pt]
        refine wpAnyH_ready (rs := [6]) (by kernel_rfl) (by simp) ?_
        refine rdH (fun K hK => ?_) ?_
        · obtain ⟨a1, c1', w6, hrun, hrw6, hgr6, _⟩ := run_appR ((w0.drew.alloc (.cells #[.int .i64 o, .int .i64 n, .slice a us.length cap] 35)).alloc (.cells #[] 35)) 40 w0.heap.size _ [] HROW.out ak rk.length ck rk (rsAt_below HXP.out HW2.out) HCN.out.1 HCN.out.2 (by have := HKB.out; simp; omega) HW2.out.size
          simp only [List.length_nil, Nat.zero_add, List.nil_append] at hrun hrw6
          have HW3 := Lib.hid (belR HROW.out HW2.out hgr6 HW2.out.size)
          have hk3 := HK7.out _ HW3.out
          have HROW1 := Lib.hid hrw6
          have ck3 : w6.cell? ⟨b, 4, none⟩ = some (.slice ak rk.length ck) := (HQ0.out.next HW3.out).c4
          have HONE := Lib.hid (rsAt_keep HONE.out fun _ g off e => hgr6.block g (by cases e; first | (simp; done) | (simp; omega)) (by cases e; simp [Value.ownBlock]))
          clear hrw6 hgr6
          refine step_append_run (by rfl) (.tmp 41) (.tmp 45) 40 rfl _ _ _ rfl rfl hrun ?_
          refine hK.out _ _ ?_ (fun hH => ?_)
          · exact hk3
          clear hK K
          try simp only [pt]
          refine wpAnyH_ready (rs := [9]) (by kernel_rfl) (by simp) ?_
          refine rdH (fun K hK => ?_) ?_
          · obtain ⟨a2, c2, w8, hrun9, hrw8, hgr8, _⟩ := run_appR w6 40 w0.heap.size _ rk HROW1.out (some ⟨w0.heap.size, 0, none⟩) 1 1 [⟨o, n, a, us.length, cap, us⟩] HONE.out (Nat.le_refl _) (fun e => by cases e) (by have := HKB.out; omega) HW3.out.size
            have HW8 := Lib.hid (belR HROW1.out HW3.out hgr8 HW3.out.size)
            have hk9 := HK7.out _ HW8.out
            have HROW2 := Lib.hid hrw8
            clear hrw8 hgr8
            refine step_append_run (by rfl) (.tmp 46) (.tmp 48) 40 rfl _ _ _ rfl rfl hrun9 ?_
            refine hK.out _ _ ?_ (fun hH => ?_)
            · exact hk9
            clear hK K
            try simp only [pt]
            refine tkH 10 ?_ ?_ ?_
            rotate_left
            · intro w h; try dsimp only at h
              obtain ⟨q0, q1, q2⟩ := h; go_simp; all_goals with_reducible rfl
            try simp only [pt]
            refine tkH 11 ?_ ?_ ?_
            rotate_left
            · intro w h; try dsimp only at h
              obtain ⟨q0, q1, q2⟩ := h; go_simp; all_goals with_reducible rfl
            try simp only [pt]
            refine wpAnyH_ready (rs := [12]) (by kernel_rfl) (by simp) ?_
            refine rdH (fun K hK => ?_) ?_
            · have hrb9 := (HR0.out.next HW8.out).setnew HNB.out 4 (.slice a2 (rk.length + 1) c2)
              have hs9 : (w8.setCell ⟨b, 4, none⟩ (.slice a2 (rk.length + 1) c2)).cell? ⟨w.heap.size, 0, none⟩ = some (.int .i64 o) ∧ (w8.setCell ⟨b, 4, none⟩ (.slice a2 (rk.length + 1) c2)).cell? ⟨w.heap.size, 1, none⟩ = some (.int .i64 n) ∧ (w8.setCell ⟨b, 4, none⟩ (.slice a2 (rk.length + 1) c2)).cell? ⟨w.heap.size, 2, none⟩ = some (.slice a us.length cap) := ⟨hrb9.c0, hrb9.c1, hrb9.c2⟩
              have gb := (HQ0.out.next HW8.out).f0 4
              have ck9 : w8.cell? ⟨b, 4, none⟩ = some (.slice ak rk.length ck) := (HQ0.out.next HW8.out).c4
              clear hrb9
              go_simp
              refine hK.out _ _ ?_ (fun hH => ?_)
              · exact hs9
              clear hK K
              try simp only [pt]
              refine wpAnyH_done (by kernel_rfl) ?_ _
              have HFIN := Lib.hid (et_fin (r := ⟨o, n, a, us.length, cap, us⟩) (s0 := s) HQ.out HQ0.out HM0.out HLV0.out HRU0.out HRM0.out HW8.out HROW2.out)
              clear hs9 HK7 hrun hrun9 hk0 hk9
              go_wp2
              go_ret
              exact ⟨rfl, HFIN.out⟩
            exact AllReadyH.nil
          exact AllReadyH.nil
        exact AllReadyH.nil
      exact AllReadyH.nil
    exact AllReadyH.nil
  refine rdH (fun K hK => ?_) ?_
  · go_simp
    have HW1 : Hid (Below w0.heap.size w0 (w0.drew.alloc (.cells #[.int .i64 o, .int .i64 n, .slice a us.length cap] 35))) := Lib.hid (Below.step HW0.out (.cells #[.int .i64 o, .int .i64 n, .slice a us.length cap] 35) (Below.refl _ _))
    have hk1 := HK7.out _ HW1.out
    have ck1 : (w0.alloc (.cells #[.int .i64 o, .int .i64 n, .slice a us.length cap] 35)).cell? ⟨b, 4, none⟩ = some (.slice ak rk.length ck) := (HQ0.out.next HW1.out).c4
    have HONE : Hid (RsAt (w0.drew.alloc (.cells #[.int .i64 o, .int .i64 n, .slice a us.length cap] 35)) (some ⟨w0.heap.size, 0, none⟩) 1 [⟨o, n, a, us.length, cap, us⟩]) := Lib.hid (by
      have := rsAt_one w0.drew ⟨o, n, a, us.length, cap, us⟩
      rw [show w0.drew.heap.size = w0.heap.size by simp] at this
      exact this)
    refine hK.out _ _ ?_ (fun hH => ?_)
    · exact hk1
    clear hK K
    try simp only [pt]
    refine wpAnyH_ready (rs := [1, 5]) (by kernel_rfl) (by simp) ?_
    refine rdH (fun K hK => ?_) ?_
    · go_simp
      have HW2 : Hid (Below w0.heap.size w0 ((w0.drew.alloc (.cells #[.int .i64 o, .int .i64 n, .slice a us.length cap] 35)).alloc (.cells #[] 35))) := Lib.hid (Below.step HW1.out (.cells #[] 35) (Below.refl _ _))
      have hk2 := HK7.out _ HW2.out
      have ck2 : ((w0.alloc (.cells #[.int .i64 o, .int .i64 n, .slice a us.length cap] 35)).alloc (.cells #[] 35)).cell? ⟨b, 4, none⟩ = some (.slice ak rk.length ck) := (HQ0.out.next HW2.out).c4
      have HROW : Hid (RowR w0.heap.size ((w0.drew.alloc (.cells #[.int .i64 o, .int .i64 n, .slice a us.length cap] 35)).alloc (.cells #[] 35)) (.slice (some ⟨w0.heap.size + 1, 0, none⟩) 0 0) []) := Lib.hid (by
        have := RowR.lower (rowR_new (w0.drew.alloc (.cells #[.int .i64 o, .int .i64 n, .slice a us.length cap] 35))) (show w0.heap.size ≤ (w0.drew.alloc (.cells #[.int .i64 o, .int .i64 n, .slice a us.length cap] 35)).heap.size by simp)
        rw [show (w0.drew.alloc (.cells #[.int .i64 o, .int .i64 n, .slice a us.length cap] 35)).heap.size = w0.heap.size + 1 by simp] at this
        exact this)
      have HONE := Lib.hid (rsAt_below (w' := ((w0.drew.alloc (.cells #[.int .i64 o, .int .i64 n, .slice a us.length cap] 35)).alloc (.cells #[] 35))) HONE.out (Joins.below_alloc1 _ _))
      refine hK.out _ _ ?_ (fun hH => ?_)
      · exact hk2
      clear hK K
      try simp only [pt]
      refine wpAnyH_ready (rs := [5]) (by kernel_rfl) (by simp) ?_
      refine rdH (fun K hK => ?_) ?_
      · go_simp
        refine hK.out _ _ ?_ (fun hH => ?_)
        · exact hk2
        clear hK K
        try simp only [pt]
        refine wpAnyH_ready (rs := [6]) (by kernel_rfl) (by simp) ?_
        refine rdH (fun K hK => ?_) ?_
        · obtain ⟨a1, c1', w6, hrun, hrw6, hgr6, _⟩ := run_appR ((w0.drew.alloc (.cells #[.int .i64 o, .int .i64 n, .slice a us.length cap] 35)).alloc (.cells #[] 35)) 40 w0.heap.size _ [] HROW.out ak rk.length ck rk (rsAt_below HXP.out HW2.out) HCN.out.1 HCN.out.2 (by have := HKB.out; simp; omega) HW2.out.size
          simp only [List.length_nil, Nat.zero_add, List.nil_append] at hrun hrw6
          have HW3 := Lib.hid (belR HROW.out HW2.out hgr6 HW2.out.size)
          have hk3 := HK7.out _ HW3.out
          have HROW1 := Lib.hid hrw6
          have ck3 : w6.cell? ⟨b, 4, none⟩ = some (.slice ak rk.length ck) := (HQ0.out.next HW3.out).c4
          have HONE := Lib.hid (rsAt_keep HONE.out fun _ g off e => hgr6.block g (by cases e; first | (simp; done) | (simp; omega)) (by cases e; simp [Value.ownBlock]))
          clear hrw6 hgr6
          refine step_append_run (by rfl) (.tmp 41) (.tmp 45) 40 rfl _ _ _ rfl rfl hrun ?_
          refine hK.out _ _ ?_ (fun hH => ?_)
          · exact hk3
          clear hK K
          try simp only [pt]
          refine wpAnyH_ready (rs := [9]) (by kernel_rfl) (by simp) ?_
          refine rdH (fun K hK => ?_) ?_
          · obtain ⟨a2, c2, w8, hrun9, hrw8, hgr8, _⟩ := run_appR w6 40 w0.heap.size _ rk HROW1.out (some ⟨w0.heap.size, 0, none⟩) 1 1 [⟨o, n, a, us.length, cap, us⟩] HONE.out (Nat.le_refl _) (fun e => by cases e) (by have := HKB.out; omega) HW3.out.size
            have HW8 := Lib.hid (belR HROW1.out HW3.out hgr8 HW3.out.size)
            have hk9 := HK7.out _ HW8.out
            have HROW2 := Lib.hid hrw8
            clear hrw8 hgr8
            refine step_append_run (by rfl) (.tmp 46) (.tmp 48) 40 rfl _ _ _ rfl rfl hrun9 ?_
            refine hK.out _ _ ?_ (fun hH => ?_)
            · exact hk9
            clear hK K
            try simp only [pt]
            refine tkH 10 ?_ ?_ ?_
            rotate_left
            · intro w h; try dsimp only at h
              obtain ⟨q0, q1, q2⟩ := h; go_simp; all_goals with_reducible rfl
            try simp only [pt]
            refine tkH 11 ?_ ?_ ?_
            rotate_left
            · intro w h; try dsimp only at h
              obtain ⟨q0, q1, q2⟩ := h; go_simp; all_goals with_reducible rfl
            try simp only [pt]
            refine wpAnyH_ready (rs := [12]) (by kernel_rfl) (by simp) ?_
            refine rdH (fun K hK => ?_) ?_
            · have hrb9 := (HR0.out.next HW8.out).setnew HNB.out 4 (.slice a2 (rk.length + 1) c2)
              have hs9 : (w8.setCell ⟨b, 4, none⟩ (.slice a2 (rk.length + 1) c2)).cell? ⟨w.heap.size, 0, none⟩ = some (.int .i64 o) ∧ (w8.setCell ⟨b, 4, none⟩ (.slice a2 (rk.length + 1) c2)).cell? ⟨w.heap.size, 1, none⟩ = some (.int .i64 n) ∧ (w8.setCell ⟨b, 4, none⟩ (.slice a2 (rk.length + 1) c2)).cell? ⟨w.heap.size, 2, none⟩ = some (.slice a us.length cap) := ⟨hrb9.c0, hrb9.c1, hrb9.c2⟩
              have gb := (HQ0.out.next HW8.out).f0 4
              have ck9 : w8.cell? ⟨b, 4, none⟩ = some (.slice ak rk.length ck) := (HQ0.out.next HW8.out).c4
              clear hrb9
              go_simp
              refine hK.out _ _ ?_ (fun hH => ?_)
              · exact hs9
              clear hK K
              try simp only [pt]
              refine wpAnyH_done (by kernel_rfl) ?_ _
              have HFIN := Lib.hid (et_fin (r := ⟨o, n, a, us.length, cap, us⟩) (s0 := s) HQ.out HQ0.out HM0.out HLV0.out HRU0.out HRM0.out HW8.out HROW2.out)
              clear hs9 HK7 hrun hrun9 hk0 hk9
              go_wp2
              go_ret
              exact ⟨rfl, HFIN.out⟩
            exact AllReadyH.nil
          exact AllReadyH.nil
        exact AllReadyH.nil
      exact AllReadyH.nil
    refine rdH (fun K hK => ?_) ?_
    · go_simp
      refine hK.out _ _ ?_ (fun hH => ?_)
      · exact hk1
      clear hK K
      try simp only [pt]
      refine wpAnyH_ready (rs := [1]) (by kernel_rfl) (by simp) ?_
      refine rdH (fun K hK => ?_) ?_
      · go_simp
        have HW2 : Hid (Below w0.heap.size w0 ((w0.drew.alloc (.cells #[.int .i64 o, .int .i64 n, .slice a us.length cap] 35)).alloc (.cells #[] 35))) := Lib.hid (Below.step HW1.out (.cells #[] 35) (Below.refl _ _))
        have hk2 := HK7.out _ HW2.out
        have ck2 : ((w0.alloc (.cells #[.int .i64 o, .int .i64 n, .slice a us.length cap] 35)).alloc (.cells #[] 35)).cell? ⟨b, 4, none⟩ = some (.slice ak rk.length ck) := (HQ0.out.next HW2.out).c4
        have HROW : Hid (RowR w0.heap.size ((w0.drew.alloc (.cells #[.int .i64 o, .int .i64 n, .slice a us.length cap] 35)).alloc (.cells #[] 35)) (.slice (some ⟨w0.heap.size + 1, 0, none⟩) 0 0) []) := Lib.hid (by
          have := RowR.lower (rowR_new (w0.drew.alloc (.cells #[.int .i64 o, .int .i64 n, .slice a us.length cap] 35))) (show w0.heap.size ≤ (w0.drew.alloc (.cells #[.int .i64 o, .int .i64 n, .slice a us.length cap] 35)).heap.size by simp)
          rw [show (w0.drew.alloc (.cells #[.int .i64 o, .int .i64 n, .slice a us.length cap] 35)).heap.size = w0.heap.size + 1 by simp] at this
          exact this)
        have HONE := Lib.hid (rsAt_below (w' := ((w0.drew.alloc (.cells #[.int .i64 o, .int .i64 n, .slice a us.length cap] 35)).alloc (.cells #[] 35))) HONE.out (Joins.below_alloc1 _ _))
        refine hK.out _ _ ?_ (fun hH => ?_)
        · exact hk2
        clear hK K
        try simp only [pt]
        refine wpAnyH_ready (rs := [6]) (by kernel_rfl) (by simp) ?_
        refine rdH (fun K hK => ?_) ?_
        · obtain ⟨a1, c1', w6, hrun, hrw6, hgr6, _⟩ := run_appR ((w0.drew.alloc (.cells #[.int .i64 o, .int .i64 n, .slice a us.length cap] 35)).alloc (.cells #[] 35)) 40 w0.heap.size _ [] HROW.out ak rk.length ck rk (rsAt_below HXP.out HW2.out) HCN.out.1 HCN.out.2 (by have := HKB.out; simp; omega) HW2.out.size
          simp only [List.length_nil, Nat.zero_add, List.nil_append] at hrun hrw6
          have HW3 := Lib.hid (belR HROW.out HW2.out hgr6 HW2.out.size)
          have hk3 := HK7.out _ HW3.out
          have HROW1 := Lib.hid hrw6
          have ck3 : w6.cell? ⟨b, 4, none⟩ = some (.slice ak rk.length ck) := (HQ0.out.next HW3.out).c4
          have HONE := Lib.hid (rsAt_keep HONE.out fun _ g off e => hgr6.block g (by cases e; first | (simp; done) | (simp; omega)) (by cases e; simp [Value.ownBlock]))
          clear hrw6 hgr6
          refine step_append_run (by rfl) (.tmp 41) (.tmp 45) 40 rfl _ _ _ rfl rfl hrun ?_
          refine hK.out _ _ ?_ (fun hH => ?_)
          · exact hk3
          clear hK K
          try simp only [pt]
          refine wpAnyH_ready (rs := [9]) (by kernel_rfl) (by simp) ?_
          refine rdH (fun K hK => ?_) ?_
          · obtain ⟨a2, c2, w8, hrun9, hrw8, hgr8, _⟩ := run_appR w6 40 w0.heap.size _ rk HROW1.out (some ⟨w0.heap.size, 0, none⟩) 1 1 [⟨o, n, a, us.length, cap, us⟩] HONE.out (Nat.le_refl _) (fun e => by cases e) (by have := HKB.out; omega) HW3.out.size
            have HW8 := Lib.hid (belR HROW1.out HW3.out hgr8 HW3.out.size)
            have hk9 := HK7.out _ HW8.out
            have HROW2 := Lib.hid hrw8
            clear hrw8 hgr8
            refine step_append_run (by rfl) (.tmp 46) (.tmp 48) 40 rfl _ _ _ rfl rfl hrun9 ?_
            refine hK.out _ _ ?_ (fun hH => ?_)
            · exact hk9
            clear hK K
            try simp only [pt]
            refine tkH 10 ?_ ?_ ?_
            rotate_left
            · intro w h; try dsimp only at h
              obtain ⟨q0, q1, q2⟩ := h; go_simp; all_goals with_reducible rfl
            try simp only [pt]
            refine tkH 11 ?_ ?_ ?_
            rotate_left
            · intro w h; try dsimp only at h
              obtain ⟨q0, q1, q2⟩ := h; go_simp; all_goals with_reducible rfl
            try simp only [pt]
            refine wpAnyH_ready (rs := [12]) (by kernel_rfl) (by simp) ?_
            refine rdH (fun K hK => ?_) ?_
            · have hrb9 := (HR0.out.next HW8.out).setnew HNB.out 4 (.slice a2 (rk.length + 1) c2)
              have hs9 : (w8.setCell ⟨b, 4, none⟩ (.slice a2 (rk.length + 1) c2)).cell? ⟨w.heap.size, 0, none⟩ = some (.int .i64 o) ∧ (w8.setCell ⟨b, 4, none⟩ (.slice a2 (rk.length + 1) c2)).cell? ⟨w.heap.size, 1, none⟩ = some (.int .i64 n) ∧ (w8.setCell ⟨b, 4, none⟩ (.slice a2 (rk.length + 1) c2)).cell? ⟨w.heap.size, 2, none⟩ = some (.slice a us.length cap) := ⟨hrb9.c0, hrb9.c1, hrb9.c2⟩
              have gb := (HQ0.out.next HW8.out).f0 4
              have ck9 : w8.cell? ⟨b, 4, none⟩ = some (.slice ak rk.length ck) := (HQ0.out.next HW8.out).c4
              clear hrb9
              go_simp
              refine hK.out _ _ ?_ (fun hH => ?_)
              · exact hs9
              clear hK K
              try simp only [pt]
              refine wpAnyH_done (by kernel_rfl) ?_ _
              have HFIN := Lib.hid (et_fin (r := ⟨o, n, a, us.length, cap, us⟩) (s0 := s) HQ.out HQ0.out HM0.out HLV0.out HRU0.out HRM0.out HW8.out HROW2.out)
              clear hs9 HK7 hrun hrun9 hk0 hk9
              go_wp2
              go_ret
              exact ⟨rfl, HFIN.out⟩
            exact AllReadyH.nil
          exact AllReadyH.nil
        exact AllReadyH.nil
      exact AllReadyH.nil
    exact AllReadyH.nil
  exact AllReadyH.nil
set_option maxHeartbeats 8000000 in
theorem dtake_own (o n : Int) (a : Option Addr) (cap : Nat) (us : List Up) (hkl : rk.length ≤ 1000) (hrm : 0 < us.length → ∀ g off, a = some ⟨g, off, none⟩ → M g) (ho : o = s.o) (hk : 0 < rp.length) (hb : (rp.getD 0 rn0).n = n) (hpl : rp.length ≤ 1000) (w : World) (hu : Ru w ⟨o, n, a, us.length, cap, us⟩) (hq : Dq B w b jb FJ M ak rk.length ck rk ap rp.length cp rp (s.uss.drop s.k) ao lo co s) :
    Calls Tryd.prog 37 #[.pointer (some ⟨b, 0, none⟩), .agg #[.int .i64 o, .int .i64 n, .slice a us.length cap]] w fun e w' => e = .returned (.int .i64 0) ∧ ∃ D', DkW B w w' b (Df b FJ M) D' { s with kn := s.kn ++ [(o, n, us)], k := s.k + 1 } := by
  have hA := Joins.below_alloc1 w (.cells #[.int .i64 o, .int .i64 n, .slice a us.length cap] 35)
  have hr := Rb.new w o n a us.length cap
  have d0 := hr.c0
  have d1 := hr.c1
  have d2 := hr.c2
  have c1 := (hq.next hA).c1
  have HA := Lib.hid hA
  have HQ := Lib.hid hq
  have HU := Lib.hid hu
  have HR := Lib.hid hr
  have HKB := Lib.hid hkl
  have HRM := Lib.hid hrm
  have HLT := Lib.hid hq.lt
  have HNB : Hid (w.heap.size ≠ b) := Lib.hid (by have := hq.lt; omega)
  have q1 : (o == s.o) = true := beq_iff_eq.2 ho
  have q2 : ((rp.length : Int) == 0) = false := beq_false_of_ne (by omega)
  have q4 : (0 : Int) < (rp.length : Int) := by omega
  have c5 := (hq.next hA).c5
  obtain ⟨g, off, rfl, _, x1, _, _⟩ := rcells_of hq.pr.is hA hk
  rw [Nat.zero_mul, Nat.add_zero] at x1
  have q3 : (n != n) = false := by simp
  rw [hb] at x1
  obtain ⟨A, C, L, hL, hsl, hI, hLC, hAn⟩ := from_slice hq.pr.is hq.pr.hc hq.pr.hn hk
  have hsl' : ∀ w, (Instr.sliceAt 40 (.slice (some ⟨g, off, none⟩) rp.length cp) (some (.int .i64 1)) none none).run Tryd.prog w = .ok (.slice A L C) w := hsl
  have HI := Lib.hid hI
  have HLC := Lib.hid (And.intro hLC hAn)
  have hLs : L ≤ 1000 := by omega
  have HLL : Hid (L = (rp.drop 1).length) := Lib.hid (by rw [List.length_drop]; exact hL)
  clear hq hA hr hu ho hkl hrm hk hb hpl hsl hI hLC hAn hL
  go_enter Tryd.func37, Tryd.ntmps37
  go_wp2_with fail
  go_quiet (fail)
  revert nq
  intro n1
  go_wp2_with fail
  go_quiet (fail)
  revert nq
  intro n2
  go_upto_region 4 with fail
  have HQ1 : Hid (Dq B (((w.alloc (.cells #[.int .i64 o, .int .i64 n, .slice a us.length cap] 35)).drewN n1).drewN n2) b jb FJ M ak rk.length ck rk (some ⟨g, off, none⟩) rp.length cp rp (s.uss.drop s.k) ao lo co s) := Lib.hid (HQ.out.next (belN (belN HA.out n1) n2))
  have HR1 : Hid (Rb (((w.alloc (.cells #[.int .i64 o, .int .i64 n, .slice a us.length cap] 35)).drewN n1).drewN n2) w.heap.size o n a us.length cap) := Lib.hid ((HR.out.drewN n1).drewN n2)
  have HB1 : Hid (Below w.heap.size w (((w.alloc (.cells #[.int .i64 o, .int .i64 n, .slice a us.length cap] 35)).drewN n1).drewN n2)) := Lib.hid (belN (belN HA.out n1) n2)
  generalize ((w.alloc (.cells #[.int .i64 o, .int .i64 n, .slice a us.length cap] 35)).drewN n1).drewN n2 = w1 at *
  clear c1 c5 d0 d1 d2 x1 HA HR
  have hA1 := Joins.below_alloc1 w1 (.cells #[] 35)
  have c5 := (HQ1.out.next hA1).c5
  have HX := Lib.hid (isRs_below HI.out HB1.out).at
  have HK : Hid (∀ W, Below w1.heap.size w1 W → W.frozen? ⟨b, 5, none⟩ = false ∧ W.cell? ⟨b, 5, none⟩ = some (.slice (some ⟨g, off, none⟩) rp.length cp)) := Lib.hid fun W hW => ⟨(HQ1.out.next hW).f0 5, (HQ1.out.next hW).c5⟩
  go_wp2_with (first
    | (at_builtin; refine wpList_appR0 rfl _ _ rfl rfl A L C rfl (rp.drop 1) HX.out HLC.out.1 HLC.out.2 (by omega) ?_; intro a' c' w4 hr4 hb4; have hk4 := HK.out _ hb4; have k4 := hk4.1; have k5 := hk4.2; go_frame)
    | go_in)
  have HQ0 := Lib.hid (((HQ1.out.grow hb4).setP (k' := s.k + 1) (pd' := s.uss.drop (s.k + 1)) (rsM_row (M := Mn M w1 w4) hr4 HLL.out (fun x hx => (HQ1.out.pr.is.each x (List.mem_of_mem_drop hx)).below hb4) (fun x hx h0 g off e => .inl (HQ1.out.pr.each x (List.mem_of_mem_drop hx) h0 g off e)) fun x h1 h2 => .inr ⟨h1, h2⟩) (by
    have := HQ1.out.po.drop 1
    rw [List.drop_drop] at this
    exact this)))
  have HR0 := Lib.hid ((HR1.out.next hb4).setnew HNB.out 5 (.slice a' L c'))
  have HLV0 : Hid (Lv w (w4.setCell ⟨b, 5, none⟩ (.slice a' L c')) fun x => x = b) := Lib.hid (((Lv.ofBelow HB1.out _).trans (Lv.ofBelow hb4 _)).trans (Lv.set (F := fun x => x = b) rfl _ _))
  have HRU0 : Hid (Ru (w4.setCell ⟨b, 5, none⟩ (.slice a' L c')) ⟨o, n, a, us.length, cap, us⟩) := Lib.hid (by
    have h1 := (HU.out.below HB1.out).below hb4
    exact ⟨isUs_keep h1.1 fun h0 g off e => Below.heap_setCell _ _ _ _ (show g ≠ b from (HQ.out.mm g (HRM.out h0 g off e)).2.1), h1.2⟩)
  have HM0 : Hid (∀ x, Mn M w1 w4 x → M x ∨ w.heap.size ≤ x) := Lib.hid fun x hx => by
    have := HB1.out.size
    rcases hx with hx | hx
    · exact .inl hx
    · exact .inr (by omega)
  have HRM0 : Hid (0 < us.length → ∀ g off, a = some ⟨g, off, none⟩ → Mn M w1 w4 g) := Lib.hid fun h0 g off e => .inl (HRM.out h0 g off e)
  clear hr4 hb4 hk4 c5 HX HK HQ1 HR1 HB1 HU HI hA1
  go_upto_region 5 with fail
  generalize w4.setCell ⟨b, 5, none⟩ (.slice a' L c') = w0 at *
  clear k4 k5
  have HXP := Lib.hid HQ0.out.kr.is.at
  have HCN := Lib.hid (And.intro HQ0.out.kr.hc HQ0.out.kr.hn)
  have HW0 : Hid (Below w0.heap.size w0 w0.drew) := Lib.hid (Below.refl w0.heap.size w0).drew
  have HK7 : Hid (∀ W, Below w0.heap.size w0 W → W.cell? ⟨w.heap.size, 0, none⟩ = some (.int .i64 o) ∧ W.cell? ⟨w.heap.size, 1, none⟩ = some (.int .i64 n) ∧ W.cell? ⟨w.heap.size, 2, none⟩ = some (.slice a us.length cap)) := Lib.hid fun W hW => ⟨(HR0.out.next hW).c0, (HR0.out.next hW).c1, (HR0.out.next hW).c2⟩
  have hk0 := HK7.out _ HW0.out
  have ck0 : w0.cell? ⟨b, 4, none⟩ = some (.slice ak rk.length ck) := HQ0.out.c4
  go_wp2_with fail
  refine wp_region_held_drew (S := fun w' => w'.cell? ⟨w.heap.size, 0, none⟩ = some (.int .i64 o) ∧ w'.cell? ⟨w.heap.size, 1, none⟩ = some (.int .i64 n) ∧ w'.cell? ⟨w.heap.size, 2, none⟩ = some (.slice a us.length cap)) (by kernel_rfl) ?_ (fun hH => ?_)
  · exact hk0
  refine tkH 0 ?_ ?_ ?_
  rotate_left
  · intro w h; try dsimp only at h
    obtain ⟨q0, q1, q2⟩ := h; go_simp; all_goals with_reducible rfl
  try simp only [pt]
  refine tkH 2 ?_ ?_ ?_
  rotate_left
  · intro w h; try dsimp only at h
    obtain ⟨q0, q1, q2⟩ := h; go_simp; all_goals with_reducible rfl
  try simp only [pt]
  refine tkH 3 ?_ ?_ ?_
  rotate_left
  · intro w h; try dsimp only at h
    obtain ⟨q0, q1, q2⟩ := h; go_simp; all_goals with_reducible rfl
  try simp only [pt]
  refine tkH 4 ?_ ?_ ?_
  rotate_left
  · intro w h; try dsimp only at h
    obtain ⟨q0, q1, q2⟩ := h; go_simp; all_goals with_reducible rfl
  try simp only [pt]
  refine tkH 7 ?_ ?_ ?_
  rotate_left
  · intro w h; try dsimp only at h
    obtain ⟨q0, q1, q2⟩ := h; go_simp; all_goals with_reducible rfl
  try simp only [pt]
  refine wpAnyH_ready (rs := [1, 5, 8]) (by kernel_rfl) (by simp) ?_
  refine rdH (fun K hK => ?_) ?_
  · go_simp
    have HW1 : Hid (Below w0.heap.size w0 (w0.drew.alloc (.cells #[] 35))) := Lib.hid (Below.step HW0.out (.cells #[] 35) (Below.refl _ _))
    have hk1 := HK7.out _ HW1.out
    have ck1 : (w0.alloc (.cells #[] 35)).cell? ⟨b, 4, none⟩ = some (.slice ak rk.length ck) := (HQ0.out.next HW1.out).c4
    have HROW : Hid (RowR w0.heap.size (w0.drew.alloc (.cells #[] 35)) (.slice (some ⟨w0.heap.size, 0, none⟩) 0 0) []) := Lib.hid (by
      have := RowR.lower (rowR_new w0.drew) (show w0.heap.size ≤ w0.drew.heap.size by simp)
      rw [show w0.drew.heap.size = w0.heap.size by simp] at this
      exact this)
    refine hK.out _ _ ?_ (fun hH => ?_)
    · exact hk1
    clear hK K
    try simp only [pt]
    refine wpAnyH_ready (rs := [5, 8]) (by kernel_rfl) (by simp) ?_
    refine rdH (fun K hK => ?_) ?_
    · go_simp
      refine hK.out _ _ ?_ (fun hH => ?_)
      · exact hk1
      clear hK K
      try simp only [pt]
      refine wpAnyH_ready (rs := [6, 8]) (by kernel_rfl) (by simp) ?_
      refine rdH (fun K hK => ?_) ?_
      · obtain ⟨a1, c1', w6, hrun, hrw6, hgr6, _⟩ := run_appR (w0.drew.alloc (.cells #[] 35)) 40 w0.heap.size _ [] HROW.out ak rk.length ck rk (rsAt_below HXP.out HW1.out) HCN.out.1 HCN.out.2 (by have := HKB.out; simp; omega) HW1.out.size
        simp only [List.length_nil, Nat.zero_add, List.nil_append] at hrun hrw6
        have HW2 := Lib.hid (belR HROW.out HW1.out hgr6 HW1.out.size)
        have hk2 := HK7.out _ HW2.out
        have HROW1 := Lib.hid hrw6
        have ck2 : w6.cell? ⟨b, 4, none⟩ = some (.slice ak rk.length ck) := (HQ0.out.next HW2.out).c4
        clear hrw6 hgr6
        refine step_append_run (by rfl) (.tmp 41) (.tmp 45) 40 rfl _ _ _ rfl rfl hrun ?_
        refine hK.out _ _ ?_ (fun hH => ?_)
        · exact hk2
        clear hK K
        try simp only [pt]
        refine wpAnyH_ready (rs := [8]) (by kernel_rfl) (by simp) ?_
        refine rdH (fun K hK => ?_) ?_
        · go_simp
          have HW3 : Hid (Below w0.heap.size w0 (w6.alloc (.cells #[.int .i64 o, .int .i64 n, .slice a us.length cap] 35))) := Lib.hid (Below.step HW2.out (.cells #[.int .i64 o, .int .i64 n, .slice a us.length cap] 35) (Below.refl _ _))
          have hk3 := HK7.out _ HW3.out
          have ck3 : (w6.alloc (.cells #[.int .i64 o, .int .i64 n, .slice a us.length cap] 35)).cell? ⟨b, 4, none⟩ = some (.slice ak rk.length ck) := (HQ0.out.next HW3.out).c4
          have HONE : Hid (RsAt (w6.alloc (.cells #[.int .i64 o, .int .i64 n, .slice a us.length cap] 35)) (some ⟨w6.heap.size, 0, none⟩) 1 [⟨o, n, a, us.length, cap, us⟩]) := Lib.hid (by
            have := rsAt_one w6 ⟨o, n, a, us.length, cap, us⟩
            exact this)
          have HROW1 := Lib.hid (HROW1.out.alloc (.cells #[.int .i64 o, .int .i64 n, .slice a us.length cap] 35))
          refine hK.out _ _ ?_ (fun hH => ?_)
          · exact hk3
          clear hK K
          try simp only [pt]
          refine wpAnyH_ready (rs := [9]) (by kernel_rfl) (by simp) ?_
          refine rdH (fun K hK => ?_) ?_
          · obtain ⟨a2, c2, w8, hrun9, hrw8, hgr8, _⟩ := run_appR (w6.alloc (.cells #[.int .i64 o, .int .i64 n, .slice a us.length cap] 35)) 40 w0.heap.size _ rk HROW1.out (some ⟨w6.heap.size, 0, none⟩) 1 1 [⟨o, n, a, us.length, cap, us⟩] HONE.out (Nat.le_refl _) (fun e => by cases e) (by have := HKB.out; omega) HW3.out.size
            have HW8 := Lib.hid (belR HROW1.out HW3.out hgr8 HW3.out.size)
            have hk9 := HK7.out _ HW8.out
            have HROW2 := Lib.hid hrw8
            clear hrw8 hgr8
            refine step_append_run (by rfl) (.tmp 46) (.tmp 48) 40 rfl _ _ _ rfl rfl hrun9 ?_
            refine hK.out _ _ ?_ (fun hH => ?_)
            · exact hk9
            clear hK K
            try simp only [pt]
            refine tkH 10 ?_ ?_ ?_
            rotate_left
            · intro w h; try dsimp only at h
              obtain ⟨q0, q1, q2⟩ := h; go_simp; all_goals with_reducible rfl
            try simp only [pt]
            refine tkH 11 ?_ ?_ ?_
            rotate_left
            · intro w h; try dsimp only at h
              obtain ⟨q0, q1, q2⟩ := h; go_simp; all_goals with_reducible rfl
            try simp only [pt]
            refine wpAnyH_ready (rs := [12]) (by kernel_rfl) (by simp) ?_
            refine rdH (fun K hK => ?_) ?_
            · have hrb9 := (HR0.out.next HW8.out).setnew HNB.out 4 (.slice a2 (rk.length + 1) c2)
              have hs9 : (w8.setCell ⟨b, 4, none⟩ (.slice a2 (rk.length + 1) c2)).cell? ⟨w.heap.size, 0, none⟩ = some (.int .i64 o) ∧ (w8.setCell ⟨b, 4, none⟩ (.slice a2 (rk.length + 1) c2)).cell? ⟨w.heap.size, 1, none⟩ = some (.int .i64 n) ∧ (w8.setCell ⟨b, 4, none⟩ (.slice a2 (rk.length + 1) c2)).cell? ⟨w.heap.size, 2, none⟩ = some (.slice a us.length cap) := ⟨hrb9.c0, hrb9.c1, hrb9.c2⟩
              have gb := (HQ0.out.next HW8.out).f0 4
              have ck9 : w8.cell? ⟨b, 4, none⟩ = some (.slice ak rk.length ck) := (HQ0.out.next HW8.out).c4
              clear hrb9
              go_simp
              refine hK.out _ _ ?_ (fun hH => ?_)
              · exact hs9
              clear hK K
              try simp only [pt]
              refine wpAnyH_done (by kernel_rfl) ?_ _
              have HFIN := Lib.hid (et_fin (r := ⟨o, n, a, us.length, cap, us⟩) (s0 := { s with k := s.k + 1 }) HQ.out HQ0.out HM0.out HLV0.out HRU0.out HRM0.out HW8.out HROW2.out)
              clear hs9 HK7 hrun hrun9 hk0 hk9
              go_wp2
              go_ret
              exact ⟨rfl, HFIN.out⟩
            exact AllReadyH.nil
          exact AllReadyH.nil
        exact AllReadyH.nil
      refine rdH (fun K hK => ?_) ?_
      · go_simp
        have HW2 : Hid (Below w0.heap.size w0 ((w0.drew.alloc (.cells #[] 35)).alloc (.cells #[.int .i64 o, .int .i64 n, .slice a us.length cap] 35))) := Lib.hid (Below.step HW1.out (.cells #[.int .i64 o, .int .i64 n, .slice a us.length cap] 35) (Below.refl _ _))
        have hk2 := HK7.out _ HW2.out
        have ck2 : ((w0.alloc (.cells #[] 35)).alloc (.cells #[.int .i64 o, .int .i64 n, .slice a us.length cap] 35)).cell? ⟨b, 4, none⟩ = some (.slice ak rk.length ck) := (HQ0.out.next HW2.out).c4
        have HONE : Hid (RsAt ((w0.drew.alloc (.cells #[] 35)).alloc (.cells #[.int .i64 o, .int .i64 n, .slice a us.length cap] 35)) (some ⟨w0.heap.size + 1, 0, none⟩) 1 [⟨o, n, a, us.length, cap, us⟩]) := Lib.hid (by
          have := rsAt_one (w0.drew.alloc (.cells #[] 35)) ⟨o, n, a, us.length, cap, us⟩
          rw [show (w0.drew.alloc (.cells #[] 35)).heap.size = w0.heap.size + 1 by simp] at this
          exact this)
        have HROW := Lib.hid (HROW.out.alloc (.cells #[.int .i64 o, .int .i64 n, .slice a us.length cap] 35))
        refine hK.out _ _ ?_ (fun hH => ?_)
        · exact hk2
        clear hK K
        try simp only [pt]
        refine wpAnyH_ready (rs := [6]) (by kernel_rfl) (by simp) ?_
        refine rdH (fun K hK => ?_) ?_
        · obtain ⟨a1, c1', w6, hrun, hrw6, hgr6, _⟩ := run_appR ((w0.drew.alloc (.cells #[] 35)).alloc (.cells #[.int .i64 o, .int .i64 n, .slice a us.length cap] 35)) 40 w0.heap.size _ [] HROW.out ak rk.length ck rk (rsAt_below HXP.out HW2.out) HCN.out.1 HCN.out.2 (by have := HKB.out; simp; omega) HW2.out.size
          simp only [List.length_nil, Nat.zero_add, List.nil_append] at hrun hrw6
          have HW3 := Lib.hid (belR HROW.out HW2.out hgr6 HW2.out.size)
          have hk3 := HK7.out _ HW3.out
          have HROW1 := Lib.hid hrw6
          have ck3 : w6.cell? ⟨b, 4, none⟩ = some (.slice ak rk.length ck) := (HQ0.out.next HW3.out).c4
          have HONE := Lib.hid (rsAt_keep HONE.out fun _ g off e => hgr6.block g (by cases e; first | (simp; done) | (simp; omega)) (by cases e; simp [Value.ownBlock]))
          clear hrw6 hgr6
          refine step_append_run (by rfl) (.tmp 41) (.tmp 45) 40 rfl _ _ _ rfl rfl hrun ?_
          refine hK.out _ _ ?_ (fun hH => ?_)
          · exact hk3
          clear hK K
          try simp only [pt]
          refine wpAnyH_ready (rs := [9]) (by kernel_rfl) (by simp) ?_
          refine rdH (fun K hK => ?_) ?_
          · obtain ⟨a2, c2, w8, hrun9, hrw8, hgr8, _⟩ := run_appR w6 40 w0.heap.size _ rk HROW1.out (some ⟨w0.heap.size + 1, 0, none⟩) 1 1 [⟨o, n, a, us.length, cap, us⟩] HONE.out (Nat.le_refl _) (fun e => by cases e) (by have := HKB.out; omega) HW3.out.size
            have HW8 := Lib.hid (belR HROW1.out HW3.out hgr8 HW3.out.size)
            have hk9 := HK7.out _ HW8.out
            have HROW2 := Lib.hid hrw8
            clear hrw8 hgr8
            refine step_append_run (by rfl) (.tmp 46) (.tmp 48) 40 rfl _ _ _ rfl rfl hrun9 ?_
            refine hK.out _ _ ?_ (fun hH => ?_)
            · exact hk9
            clear hK K
            try simp only [pt]
            refine tkH 10 ?_ ?_ ?_
            rotate_left
            · intro w h; try dsimp only at h
              obtain ⟨q0, q1, q2⟩ := h; go_simp; all_goals with_reducible rfl
            try simp only [pt]
            refine tkH 11 ?_ ?_ ?_
            rotate_left
            · intro w h; try dsimp only at h
              obtain ⟨q0, q1, q2⟩ := h; go_simp; all_goals with_reducible rfl
            try simp only [pt]
            refine wpAnyH_ready (rs := [12]) (by kernel_rfl) (by simp) ?_
            refine rdH (fun K hK => ?_) ?_
            · have hrb9 := (HR0.out.next HW8.out).setnew HNB.out 4 (.slice a2 (rk.length + 1) c2)
              have hs9 : (w8.setCell ⟨b, 4, none⟩ (.slice a2 (rk.length + 1) c2)).cell? ⟨w.heap.size, 0, none⟩ = some (.int .i64 o) ∧ (w8.setCell ⟨b, 4, none⟩ (.slice a2 (rk.length + 1) c2)).cell? ⟨w.heap.size, 1, none⟩ = some (.int .i64 n) ∧ (w8.setCell ⟨b, 4, none⟩ (.slice a2 (rk.length + 1) c2)).cell? ⟨w.heap.size, 2, none⟩ = some (.slice a us.length cap) := ⟨hrb9.c0, hrb9.c1, hrb9.c2⟩
              have gb := (HQ0.out.next HW8.out).f0 4
              have ck9 : w8.cell? ⟨b, 4, none⟩ = some (.slice ak rk.length ck) := (HQ0.out.next HW8.out).c4
              clear hrb9
              go_simp
              refine hK.out _ _ ?_ (fun hH => ?_)
              · exact hs9
              clear hK K
              try simp only [pt]
              refine wpAnyH_done (by kernel_rfl) ?_ _
              have HFIN := Lib.hid (et_fin (r := ⟨o, n, a, us.length, cap, us⟩) (s0 := { s with k := s.k + 1 }) HQ.out HQ0.out HM0.out HLV0.out HRU0.out HRM0.out HW8.out HROW2.out)
              clear hs9 HK7 hrun hrun9 hk0 hk9
              go_wp2
              go_ret
              exact ⟨rfl, HFIN.out⟩
            exact AllReadyH.nil
          exact AllReadyH.nil
        exact AllReadyH.nil
      exact AllReadyH.nil
    refine rdH (fun K hK => ?_) ?_
    · go_simp
      have HW2 : Hid (Below w0.heap.size w0 ((w0.drew.alloc (.cells #[] 35)).alloc (.cells #[.int .i64 o, .int .i64 n, .slice a us.length cap] 35))) := Lib.hid (Below.step HW1.out (.cells #[.int .i64 o, .int .i64 n, .slice a us.length cap] 35) (Below.refl _ _))
      have hk2 := HK7.out _ HW2.out
      have ck2 : ((w0.alloc (.cells #[] 35)).alloc (.cells #[.int .i64 o, .int .i64 n, .slice a us.length cap] 35)).cell? ⟨b, 4, none⟩ = some (.slice ak rk.length ck) := (HQ0.out.next HW2.out).c4
      have HONE : Hid (RsAt ((w0.drew.alloc (.cells #[] 35)).alloc (.cells #[.int .i64 o, .int .i64 n, .slice a us.length cap] 35)) (some ⟨w0.heap.size + 1, 0, none⟩) 1 [⟨o, n, a, us.length, cap, us⟩]) := Lib.hid (by
        have := rsAt_one (w0.drew.alloc (.cells #[] 35)) ⟨o, n, a, us.length, cap, us⟩
        rw [show (w0.drew.alloc (.cells #[] 35)).heap.size = w0.heap.size + 1 by simp] at this
        exact this)
      have HROW := Lib.hid (HROW.out.alloc (.cells #[.int .i64 o, .int .i64 n, .slice a us.length cap] 35))
      refine hK.out _ _ ?_ (fun hH => ?_)
      · exact hk2
      clear hK K
      try simp only [pt]
      refine wpAnyH_ready (rs := [5]) (by kernel_rfl) (by simp) ?_
      refine rdH (fun K hK => ?_) ?_
      · go_simp
        refine hK.out _ _ ?_ (fun hH => ?_)
        · exact hk2
        clear hK K
        try simp only [pt]
        refine wpAnyH_ready (rs := [6]) (by kernel_rfl) (by simp) ?_
        refine rdH (fun K hK => ?_) ?_
        · obtain ⟨a1, c1', w6, hrun, hrw6, hgr6, _⟩ := run_appR ((w0.drew.alloc (.cells #[] 35)).alloc (.cells #[.int .i64 o, .int .i64 n, .slice a us.length cap] 35)) 40 w0.heap.size _ [] HROW.out ak rk.length ck rk (rsAt_below HXP.out HW2.out) HCN.out.1 HCN.out.2 (by have := HKB.out; simp; omega) HW2.out.size
          simp only [List.length_nil, Nat.zero_add, List.nil_append] at hrun hrw6
          have HW3 := Lib.hid (belR HROW.out HW2.out hgr6 HW2.out.size)
          have hk3 := HK7.out _ HW3.out
          have HROW1 := Lib.hid hrw6
          have ck3 : w6.cell? ⟨b, 4, none⟩ = some (.slice ak rk.length ck) := (HQ0.out.next HW3.out).c4
          have HONE := Lib.hid (rsAt_keep HONE.out fun _ g off e => hgr6.block g (by cases e; first | (simp; done) | (simp; omega)) (by cases e; simp [Value.ownBlock]))
          clear hrw6 hgr6
          refine step_append_run (by rfl) (.tmp 41) (.tmp 45) 40 rfl _ _ _ rfl rfl hrun ?_
          refine hK.out _ _ ?_ (fun hH => ?_)
          · exact hk3
          clear hK K
          try simp only [pt]
          refine wpAnyH_ready (rs := [9]) (by kernel_rfl) (by simp) ?_
          refine rdH (fun K hK => ?_) ?_
          · obtain ⟨a2, c2, w8, hrun9, hrw8, hgr8, _⟩ := run_appR w6 40 w0.heap.size _ rk HROW1.out (some ⟨w0.heap.size + 1, 0, none⟩) 1 1 [⟨o, n, a, us.length, cap, us⟩] HONE.out (Nat.le_refl _) (fun e => by cases e) (by have := HKB.out; omega) HW3.out.size
            have HW8 := Lib.hid (belR HROW1.out HW3.out hgr8 HW3.out.size)
            have hk9 := HK7.out _ HW8.out
            have HROW2 := Lib.hid hrw8
            clear hrw8 hgr8
            refine step_append_run (by rfl) (.tmp 46) (.tmp 48) 40 rfl _ _ _ rfl rfl hrun9 ?_
            refine hK.out _ _ ?_ (fun hH => ?_)
            · exact hk9
            clear hK K
            try simp only [pt]
            refine tkH 10 ?_ ?_ ?_
            rotate_left
            · intro w h; try dsimp only at h
              obtain ⟨q0, q1, q2⟩ := h; go_simp; all_goals with_reducible rfl
            try simp only [pt]
            refine tkH 11 ?_ ?_ ?_
            rotate_left
            · intro w h; try dsimp only at h
              obtain ⟨q0, q1, q2⟩ := h; go_simp; all_goals with_reducible rfl
            try simp only [pt]
            refine wpAnyH_ready (rs := [12]) (by kernel_rfl) (by simp) ?_
            refine rdH (fun K hK => ?_) ?_
            · have hrb9 := (HR0.out.next HW8.out).setnew HNB.out 4 (.slice a2 (rk.length + 1) c2)
              have hs9 : (w8.setCell ⟨b, 4, none⟩ (.slice a2 (rk.length + 1) c2)).cell? ⟨w.heap.size, 0, none⟩ = some (.int .i64 o) ∧ (w8.setCell ⟨b, 4, none⟩ (.slice a2 (rk.length + 1) c2)).cell? ⟨w.heap.size, 1, none⟩ = some (.int .i64 n) ∧ (w8.setCell ⟨b, 4, none⟩ (.slice a2 (rk.length + 1) c2)).cell? ⟨w.heap.size, 2, none⟩ = some (.slice a us.length cap) := ⟨hrb9.c0, hrb9.c1, hrb9.c2⟩
              have gb := (HQ0.out.next HW8.out).f0 4
              have ck9 : w8.cell? ⟨b, 4, none⟩ = some (.slice ak rk.length ck) := (HQ0.out.next HW8.out).c4
              clear hrb9
              go_simp
              refine hK.out _ _ ?_ (fun hH => ?_)
              · exact hs9
              clear hK K
              try simp only [pt]
              refine wpAnyH_done (by kernel_rfl) ?_ _
              have HFIN := Lib.hid (et_fin (r := ⟨o, n, a, us.length, cap, us⟩) (s0 := { s with k := s.k + 1 }) HQ.out HQ0.out HM0.out HLV0.out HRU0.out HRM0.out HW8.out HROW2.out)
              clear hs9 HK7 hrun hrun9 hk0 hk9
              go_wp2
              go_ret
              exact ⟨rfl, HFIN.out⟩
            exact AllReadyH.nil
          exact AllReadyH.nil
        exact AllReadyH.nil
      exact AllReadyH.nil
    exact AllReadyH.nil
  refine rdH (fun K hK => ?_) ?_
  · go_simp
    refine hK.out _ _ ?_ (fun hH => ?_)
    · exact hk0
    clear hK K
    try simp only [pt]
    refine wpAnyH_ready (rs := [1, 8]) (by kernel_rfl) (by simp) ?_
    refine rdH (fun K hK => ?_) ?_
    · go_simp
      have HW1 : Hid (Below w0.heap.size w0 (w0.drew.alloc (.cells #[] 35))) := Lib.hid (Below.step HW0.out (.cells #[] 35) (Below.refl _ _))
      have hk1 := HK7.out _ HW1.out
      have ck1 : (w0.alloc (.cells #[] 35)).cell? ⟨b, 4, none⟩ = some (.slice ak rk.length ck) := (HQ0.out.next HW1.out).c4
      have HROW : Hid (RowR w0.heap.size (w0.drew.alloc (.cells #[] 35)) (.slice (some ⟨w0.heap.size, 0, none⟩) 0 0) []) := Lib.hid (by
        have := RowR.lower (rowR_new w0.drew) (show w0.heap.size ≤ w0.drew.heap.size by simp)
        rw [show w0.drew.heap.size = w0.heap.size by simp] at this
        exact this)
      refine hK.out _ _ ?_ (fun hH => ?_)
      · exact hk1
      clear hK K
      try simp only [pt]
      refine wpAnyH_ready (rs := [6, 8]) (by kernel_rfl) (by simp) ?_
      refine rdH (fun K hK => ?_) ?_
      · obtain ⟨a1, c1', w6, hrun, hrw6, hgr6, _⟩ := run_appR (w0.drew.alloc (.cells #[] 35)) 40 w0.heap.size _ [] HROW.out ak rk.length ck rk (rsAt_below HXP.out HW1.out) HCN.out.1 HCN.out.2 (by have := HKB.out; simp; omega) HW1.out.size
        simp only [List.length_nil, Nat.zero_add, List.nil_append] at hrun hrw6
        have HW2 := Lib.hid (belR HROW.out HW1.out hgr6 HW1.out.size)
        have hk2 := HK7.out _ HW2.out
        have HROW1 := Lib.hid hrw6
        have ck2 : w6.cell? ⟨b, 4, none⟩ = some (.slice ak rk.length ck) := (HQ0.out.next HW2.out).c4
        clear hrw6 hgr6
        refine step_append_run (by rfl) (.tmp 41) (.tmp 45) 40 rfl _ _ _ rfl rfl hrun ?_
        refine hK.out _ _ ?_ (fun hH => ?_)
        · exact hk2
        clear hK K
        try simp only [pt]
        refine wpAnyH_ready (rs := [8]) (by kernel_rfl) (by simp) ?_
        refine rdH (fun K hK => ?_) ?_
        · go_simp
          have HW3 : Hid (Below w0.heap.size w0 (w6.alloc (.cells #[.int .i64 o, .int .i64 n, .slice a us.length cap] 35))) := Lib.hid (Below.step HW2.out (.cells #[.int .i64 o, .int .i64 n, .slice a us.length cap] 35) (Below.refl _ _))
          have hk3 := HK7.out _ HW3.out
          have ck3 : (w6.alloc (.cells #[.int .i64 o, .int .i64 n, .slice a us.length cap] 35)).cell? ⟨b, 4, none⟩ = some (.slice ak rk.length ck) := (HQ0.out.next HW3.out).c4
          have HONE : Hid (RsAt (w6.alloc (.cells #[.int .i64 o, .int .i64 n, .slice a us.length cap] 35)) (some ⟨w6.heap.size, 0, none⟩) 1 [⟨o, n, a, us.length, cap, us⟩]) := Lib.hid (by
            have := rsAt_one w6 ⟨o, n, a, us.length, cap, us⟩
            exact this)
          have HROW1 := Lib.hid (HROW1.out.alloc (.cells #[.int .i64 o, .int .i64 n, .slice a us.length cap] 35))
          refine hK.out _ _ ?_ (fun hH => ?_)
          · exact hk3
          clear hK K
          try simp only [pt]
          refine wpAnyH_ready (rs := [9]) (by kernel_rfl) (by simp) ?_
          refine rdH (fun K hK => ?_) ?_
          · obtain ⟨a2, c2, w8, hrun9, hrw8, hgr8, _⟩ := run_appR (w6.alloc (.cells #[.int .i64 o, .int .i64 n, .slice a us.length cap] 35)) 40 w0.heap.size _ rk HROW1.out (some ⟨w6.heap.size, 0, none⟩) 1 1 [⟨o, n, a, us.length, cap, us⟩] HONE.out (Nat.le_refl _) (fun e => by cases e) (by have := HKB.out; omega) HW3.out.size
            have HW8 := Lib.hid (belR HROW1.out HW3.out hgr8 HW3.out.size)
            have hk9 := HK7.out _ HW8.out
            have HROW2 := Lib.hid hrw8
            clear hrw8 hgr8
            refine step_append_run (by rfl) (.tmp 46) (.tmp 48) 40 rfl _ _ _ rfl rfl hrun9 ?_
            refine hK.out _ _ ?_ (fun hH => ?_)
            · exact hk9
            clear hK K
            try simp only [pt]
            refine tkH 10 ?_ ?_ ?_
            rotate_left
            · intro w h; try dsimp only at h
              obtain ⟨q0, q1, q2⟩ := h; go_simp; all_goals with_reducible rfl
            try simp only [pt]
            refine tkH 11 ?_ ?_ ?_
            rotate_left
            · intro w h; try dsimp only at h
              obtain ⟨q0, q1, q2⟩ := h; go_simp; all_goals with_reducible rfl
            try simp only [pt]
            refine wpAnyH_ready (rs := [12]) (by kernel_rfl) (by simp) ?_
            refine rdH (fun K hK => ?_) ?_
            · have hrb9 := (HR0.out.next HW8.out).setnew HNB.out 4 (.slice a2 (rk.length + 1) c2)
              have hs9 : (w8.setCell ⟨b, 4, none⟩ (.slice a2 (rk.length + 1) c2)).cell? ⟨w.heap.size, 0, none⟩ = some (.int .i64 o) ∧ (w8.setCell ⟨b, 4, none⟩ (.slice a2 (rk.length + 1) c2)).cell? ⟨w.heap.size, 1, none⟩ = some (.int .i64 n) ∧ (w8.setCell ⟨b, 4, none⟩ (.slice a2 (rk.length + 1) c2)).cell? ⟨w.heap.size, 2, none⟩ = some (.slice a us.length cap) := ⟨hrb9.c0, hrb9.c1, hrb9.c2⟩
              have gb := (HQ0.out.next HW8.out).f0 4
              have ck9 : w8.cell? ⟨b, 4, none⟩ = some (.slice ak rk.length ck) := (HQ0.out.next HW8.out).c4
              clear hrb9
              go_simp
              refine hK.out _ _ ?_ (fun hH => ?_)
              · exact hs9
              clear hK K
              try simp only [pt]
              refine wpAnyH_done (by kernel_rfl) ?_ _
              have HFIN := Lib.hid (et_fin (r := ⟨o, n, a, us.length, cap, us⟩) (s0 := { s with k := s.k + 1 }) HQ.out HQ0.out HM0.out HLV0.out HRU0.out HRM0.out HW8.out HROW2.out)
              clear hs9 HK7 hrun hrun9 hk0 hk9
              go_wp2
              go_ret
              exact ⟨rfl, HFIN.out⟩
            exact AllReadyH.nil
          exact AllReadyH.nil
        exact AllReadyH.nil
      refine rdH (fun K hK => ?_) ?_
      · go_simp
        have HW2 : Hid (Below w0.heap.size w0 ((w0.drew.alloc (.cells #[] 35)).alloc (.cells #[.int .i64 o, .int .i64 n, .slice a us.length cap] 35))) := Lib.hid (Below.step HW1.out (.cells #[.int .i64 o, .int .i64 n, .slice a us.length cap] 35) (Below.refl _ _))
        have hk2 := HK7.out _ HW2.out
        have ck2 : ((w0.alloc (.cells #[] 35)).alloc (.cells #[.int .i64 o, .int .i64 n, .slice a us.length cap] 35)).cell? ⟨b, 4, none⟩ = some (.slice ak rk.length ck) := (HQ0.out.next HW2.out).c4
        have HONE : Hid (RsAt ((w0.drew.alloc (.cells #[] 35)).alloc (.cells #[.int .i64 o, .int .i64 n, .slice a us.length cap] 35)) (some ⟨w0.heap.size + 1, 0, none⟩) 1 [⟨o, n, a, us.length, cap, us⟩]) := Lib.hid (by
          have := rsAt_one (w0.drew.alloc (.cells #[] 35)) ⟨o, n, a, us.length, cap, us⟩
          rw [show (w0.drew.alloc (.cells #[] 35)).heap.size = w0.heap.size + 1 by simp] at this
          exact this)
        have HROW := Lib.hid (HROW.out.alloc (.cells #[.int .i64 o, .int .i64 n, .slice a us.length cap] 35))
        refine hK.out _ _ ?_ (fun hH => ?_)
        · exact hk2
        clear hK K
        try simp only [pt]
        refine wpAnyH_ready (rs := [6]) (by kernel_rfl) (by simp) ?_
        refine rdH (fun K hK => ?_) ?_
        · obtain ⟨a1, c1', w6, hrun, hrw6, hgr6, _⟩ := run_appR ((w0.drew.alloc (.cells #[] 35)).alloc (.cells #[.int .i64 o, .int .i64 n, .slice a us.length cap] 35)) 40 w0.heap.size _ [] HROW.out ak rk.length ck rk (rsAt_below HXP.out HW2.out) HCN.out.1 HCN.out.2 (by have := HKB.out; simp; omega) HW2.out.size
          simp only [List.length_nil, Nat.zero_add, List.nil_append] at hrun hrw6
          have HW3 := Lib.hid (belR HROW.out HW2.out hgr6 HW2.out.size)
          have hk3 := HK7.out _ HW3.out
          have HROW1 := Lib.hid hrw6
          have ck3 : w6.cell? ⟨b, 4, none⟩ = some (.slice ak rk.length ck) := (HQ0.out.next HW3.out).c4
          have HONE := Lib.hid (rsAt_keep HONE.out fun _ g off e => hgr6.block g (by cases e; first | (simp; done) | (simp; omega)) (by cases e; simp [Value.ownBlock]))
          clear hrw6 hgr6
          refine step_append_run (by rfl) (.tmp 41) (.tmp 45) 40 rfl _ _ _ rfl rfl hrun ?_
          refine hK.out _ _ ?_ (fun hH => ?_)
          · exact hk3
          clear hK K
          try simp only [pt]
          refine wpAnyH_ready (rs := [9]) (by kernel_rfl) (by simp) ?_
          refine rdH (fun K hK => ?_) ?_
          · obtain ⟨a2, c2, w8, hrun9, hrw8, hgr8, _⟩ := run_appR w6 40 w0.heap.size _ rk HROW1.out (some ⟨w0.heap.size + 1, 0, none⟩) 1 1 [⟨o, n, a, us.length, cap, us⟩] HONE.out (Nat.le_refl _) (fun e => by cases e) (by have := HKB.out; omega) HW3.out.size
            have HW8 := Lib.hid (belR HROW1.out HW3.out hgr8 HW3.out.size)
            have hk9 := HK7.out _ HW8.out
            have HROW2 := Lib.hid hrw8
            clear hrw8 hgr8
            refine step_append_run (by rfl) (.tmp 46) (.tmp 48) 40 rfl _ _ _ rfl rfl hrun9 ?_
            refine hK.out _ _ ?_ (fun hH => ?_)
            · exact hk9
            clear hK K
            try simp only [pt]
            refine tkH 10 ?_ ?_ ?_
            rotate_left
            · intro w h; try dsimp only at h
              obtain ⟨q0, q1, q2⟩ := h; go_simp; all_goals with_reducible rfl
            try simp only [pt]
            refine tkH 11 ?_ ?_ ?_
            rotate_left
            · intro w h; try dsimp only at h
              obtain ⟨q0, q1, q2⟩ := h; go_simp; all_goals with_reducible rfl
            try simp only [pt]
            refine wpAnyH_ready (rs := [12]) (by kernel_rfl) (by simp) ?_
            refine rdH (fun K hK => ?_) ?_
            · have hrb9 := (HR0.out.next HW8.out).setnew HNB.out 4 (.slice a2 (rk.length + 1) c2)
              have hs9 : (w8.setCell ⟨b, 4, none⟩ (.slice a2 (rk.length + 1) c2)).cell? ⟨w.heap.size, 0, none⟩ = some (.int .i64 o) ∧ (w8.setCell ⟨b, 4, none⟩ (.slice a2 (rk.length + 1) c2)).cell? ⟨w.heap.size, 1, none⟩ = some (.int .i64 n) ∧ (w8.setCell ⟨b, 4, none⟩ (.slice a2 (rk.length + 1) c2)).cell? ⟨w.heap.size, 2, none⟩ = some (.slice a us.length cap) := ⟨hrb9.c0, hrb9.c1, hrb9.c2⟩
              have gb := (HQ0.out.next HW8.out).f0 4
              have ck9 : w8.cell? ⟨b, 4, none⟩ = some (.slice ak rk.length ck) := (HQ0.out.next HW8.out).c4
              clear hrb9
              go_simp
              refine hK.out _ _ ?_ (fun hH => ?_)
              · exact hs9
              clear hK K
              try simp only [pt]
              refine wpAnyH_done (by kernel_rfl) ?_ _
              have HFIN := Lib.hid (et_fin (r := ⟨o, n, a, us.length, cap, us⟩) (s0 := { s with k := s.k + 1 }) HQ.out HQ0.out HM0.out HLV0.out HRU0.out HRM0.out HW8.out HROW2.out)
              clear hs9 HK7 hrun hrun9 hk0 hk9
              go_wp2
              go_ret
              exact ⟨rfl, HFIN.out⟩
            exact AllReadyH.nil
          exact AllReadyH.nil
        exact AllReadyH.nil
      exact AllReadyH.nil
    refine rdH (fun K hK => ?_) ?_
    · go_simp
      have HW1 : Hid (Below w0.heap.size w0 (w0.drew.alloc (.cells #[.int .i64 o, .int .i64 n, .slice a us.length cap] 35))) := Lib.hid (Below.step HW0.out (.cells #[.int .i64 o, .int .i64 n, .slice a us.length cap] 35) (Below.refl _ _))
      have hk1 := HK7.out _ HW1.out
      have ck1 : (w0.alloc (.cells #[.int .i64 o, .int .i64 n, .slice a us.length cap] 35)).cell? ⟨b, 4, none⟩ = some (.slice ak rk.length ck) := (HQ0.out.next HW1.out).c4
      have HONE : Hid (RsAt (w0.drew.alloc (.cells #[.int .i64 o, .int .i64 n, .slice a us.length cap] 35)) (some ⟨w0.heap.size, 0, none⟩) 1 [⟨o, n, a, us.length, cap, us⟩]) := Lib.hid (by
        have := rsAt_one w0.drew ⟨o, n, a, us.length, cap, us⟩
        rw [show w0.drew.heap.size = w0.heap.size by simp] at this
        exact this)
      refine hK.out _ _ ?_ (fun hH => ?_)
      · exact hk1
      clear hK K
      try simp only [pt]
      refine wpAnyH_ready (rs := [1]) (by kernel_rfl) (by simp) ?_
      refine rdH (fun K hK => ?_) ?_
      · go_simp
        have HW2 : Hid (Below w0.heap.size w0 ((w0.drew.alloc (.cells #[.int .i64 o, .int .i64 n, .slice a us.length cap] 35)).alloc (.cells #[] 35))) := Lib.hid (Below.step HW1.out (.cells #[] 35) (Below.refl _ _))
        have hk2 := HK7.out _ HW2.out
        have ck2 : ((w0.alloc (.cells #[.int .i64 o, .int .i64 n, .slice a us.length cap] 35)).alloc (.cells #[] 35)).cell? ⟨b, 4, none⟩ = some (.slice ak rk.length ck) := (HQ0.out.next HW2.out).c4
        have HROW : Hid (RowR w0.heap.size ((w0.drew.alloc (.cells #[.int .i64 o, .int .i64 n, .slice a us.length cap] 35)).alloc (.cells #[] 35)) (.slice (some ⟨w0.heap.size + 1, 0, none⟩) 0 0) []) := Lib.hid (by
          have := RowR.lower (rowR_new (w0.drew.alloc (.cells #[.int .i64 o, .int .i64 n, .slice a us.length cap] 35))) (show w0.heap.size ≤ (w0.drew.alloc (.cells #[.int .i64 o, .int .i64 n, .slice a us.length cap] 35)).heap.size by simp)
          rw [show (w0.drew.alloc (.cells #[.int .i64 o, .int .i64 n, .slice a us.length cap] 35)).heap.size = w0.heap.size + 1 by simp] at this
          exact this)
        have HONE := Lib.hid (rsAt_below (w' := ((w0.drew.alloc (.cells #[.int .i64 o, .int .i64 n, .slice a us.length cap] 35)).alloc (.cells #[] 35))) HONE.out (Joins.below_alloc1 _ _))
        refine hK.out _ _ ?_ (fun hH => ?_)
        · exact hk2
        clear hK K
        try simp only [pt]
        refine wpAnyH_ready (rs := [6]) (by kernel_rfl) (by simp) ?_
        refine rdH (fun K hK => ?_) ?_
        · obtain ⟨a1, c1', w6, hrun, hrw6, hgr6, _⟩ := run_appR ((w0.drew.alloc (.cells #[.int .i64 o, .int .i64 n, .slice a us.length cap] 35)).alloc (.cells #[] 35)) 40 w0.heap.size _ [] HROW.out ak rk.length ck rk (rsAt_below HXP.out HW2.out) HCN.out.1 HCN.out.2 (by have := HKB.out; simp; omega) HW2.out.size
          simp only [List.length_nil, Nat.zero_add, List.nil_append] at hrun hrw6
          have HW3 := Lib.hid (belR HROW.out HW2.out hgr6 HW2.out.size)
          have hk3 := HK7.out _ HW3.out
          have HROW1 := Lib.hid hrw6
          have ck3 : w6.cell? ⟨b, 4, none⟩ = some (.slice ak rk.length ck) := (HQ0.out.next HW3.out).c4
          have HONE := Lib.hid (rsAt_keep HONE.out fun _ g off e => hgr6.block g (by cases e; first | (simp; done) | (simp; omega)) (by cases e; simp [Value.ownBlock]))
          clear hrw6 hgr6
          refine step_append_run (by rfl) (.tmp 41) (.tmp 45) 40 rfl _ _ _ rfl rfl hrun ?_
          refine hK.out _ _ ?_ (fun hH => ?_)
          · exact hk3
          clear hK K
          try simp only [pt]
          refine wpAnyH_ready (rs := [9]) (by kernel_rfl) (by simp) ?_
          refine rdH (fun K hK => ?_) ?_
          · obtain ⟨a2, c2, w8, hrun9, hrw8, hgr8, _⟩ := run_appR w6 40 w0.heap.size _ rk HROW1.out (some ⟨w0.heap.size, 0, none⟩) 1 1 [⟨o, n, a, us.length, cap, us⟩] HONE.out (Nat.le_refl _) (fun e => by cases e) (by have := HKB.out; omega) HW3.out.size
            have HW8 := Lib.hid (belR HROW1.out HW3.out hgr8 HW3.out.size)
            have hk9 := HK7.out _ HW8.out
            have HROW2 := Lib.hid hrw8
            clear hrw8 hgr8
            refine step_append_run (by rfl) (.tmp 46) (.tmp 48) 40 rfl _ _ _ rfl rfl hrun9 ?_
            refine hK.out _ _ ?_ (fun hH => ?_)
            · exact hk9
            clear hK K
            try simp only [pt]
            refine tkH 10 ?_ ?_ ?_
            rotate_left
            · intro w h; try dsimp only at h
              obtain ⟨q0, q1, q2⟩ := h; go_simp; all_goals with_reducible rfl
            try simp only [pt]
            refine tkH 11 ?_ ?_ ?_
            rotate_left
            · intro w h; try dsimp only at h
              obtain ⟨q0, q1, q2⟩ := h; go_simp; all_goals with_reducible rfl
            try simp only [pt]
            refine wpAnyH_ready (rs := [12]) (by kernel_rfl) (by simp) ?_
            refine rdH (fun K hK => ?_) ?_
            · have hrb9 := (HR0.out.next HW8.out).setnew HNB.out 4 (.slice a2 (rk.length + 1) c2)
              have hs9 : (w8.setCell ⟨b, 4, none⟩ (.slice a2 (rk.length + 1) c2)).cell? ⟨w.heap.size, 0, none⟩ = some (.int .i64 o) ∧ (w8.setCell ⟨b, 4, none⟩ (.slice a2 (rk.length + 1) c2)).cell? ⟨w.heap.size, 1, none⟩ = some (.int .i64 n) ∧ (w8.setCell ⟨b, 4, none⟩ (.slice a2 (rk.length + 1) c2)).cell? ⟨w.heap.size, 2, none⟩ = some (.slice a us.length cap) := ⟨hrb9.c0, hrb9.c1, hrb9.c2⟩
              have gb := (HQ0.out.next HW8.out).f0 4
              have ck9 : w8.cell? ⟨b, 4, none⟩ = some (.slice ak rk.length ck) := (HQ0.out.next HW8.out).c4
              clear hrb9
              go_simp
              refine hK.out _ _ ?_ (fun hH => ?_)
              · exact hs9
              clear hK K
              try simp only [pt]
              refine wpAnyH_done (by kernel_rfl) ?_ _
              have HFIN := Lib.hid (et_fin (r := ⟨o, n, a, us.length, cap, us⟩) (s0 := { s with k := s.k + 1 }) HQ.out HQ0.out HM0.out HLV0.out HRU0.out HRM0.out HW8.out HROW2.out)
              clear hs9 HK7 hrun hrun9 hk0 hk9
              go_wp2
              go_ret
              exact ⟨rfl, HFIN.out⟩
            exact AllReadyH.nil
          exact AllReadyH.nil
        exact AllReadyH.nil
      exact AllReadyH.nil
    exact AllReadyH.nil
  refine rdH (fun K hK => ?_) ?_
  · go_simp
    have HW1 : Hid (Below w0.heap.size w0 (w0.drew.alloc (.cells #[.int .i64 o, .int .i64 n, .slice a us.length cap] 35))) := Lib.hid (Below.step HW0.out (.cells #[.int .i64 o, .int .i64 n, .slice a us.length cap] 35) (Below.refl _ _))
    have hk1 := HK7.out _ HW1.out
    have ck1 : (w0.alloc (.cells #[.int .i64 o, .int .i64 n, .slice a us.length cap] 35)).cell? ⟨b, 4, none⟩ = some (.slice ak rk.length ck) := (HQ0.out.next HW1.out).c4
    have HONE : Hid (RsAt (w0.drew.alloc (.cells #[.int .i64 o, .int .i64 n, .slice a us.length cap] 35)) (some ⟨w0.heap.size, 0, none⟩) 1 [⟨o, n, a, us.length, cap, us⟩]) := Lib.hid (by
      have := rsAt_one w0.drew ⟨o, n, a, us.length, cap, us⟩
      rw [show w0.drew.heap.size = w0.heap.size by simp] at this
      exact this)
    refine hK.out _ _ ?_ (fun hH => ?_)
    · exact hk1
    clear hK K
    try simp only [pt]
    refine wpAnyH_ready (rs := [1, 5]) (by kernel_rfl) (by simp) ?_
    refine rdH (fun K hK => ?_) ?_
    · go_simp
      have HW2 : Hid (Below w0.heap.size w0 ((w0.drew.alloc (.cells #[.int .i64 o, .int .i64 n, .slice a us.length cap] 35)).alloc (.cells #[] 35))) := Lib.hid (Below.step HW1.out (.cells #[] 35) (Below.refl _ _))
      have hk2 := HK7.out _ HW2.out
      have ck2 : ((w0.alloc (.cells #[.int .i64 o, .int .i64 n, .slice a us.length cap] 35)).alloc (.cells #[] 35)).cell? ⟨b, 4, none⟩ = some (.slice ak rk.length ck) := (HQ0.out.next HW2.out).c4
      have HROW : Hid (RowR w0.heap.size ((w0.drew.alloc (.cells #[.int .i64 o, .int .i64 n, .slice a us.length cap] 35)).alloc (.cells #[] 35)) (.slice (some ⟨w0.heap.size + 1, 0, none⟩) 0 0) []) := Lib.hid (by
        have := RowR.lower (rowR_new (w0.drew.alloc (.cells #[.int .i64 o, .int .i64 n, .slice a us.length cap] 35))) (show w0.heap.size ≤ (w0.drew.alloc (.cells #[.int .i64 o, .int .i64 n, .slice a us.length cap] 35)).heap.size by simp)
        rw [show (w0.drew.alloc (.cells #[.int .i64 o, .int .i64 n, .slice a us.length cap] 35)).heap.size = w0.heap.size + 1 by simp] at this
        exact this)
      have HONE := Lib.hid (rsAt_below (w' := ((w0.drew.alloc (.cells #[.int .i64 o, .int .i64 n, .slice a us.length cap] 35)).alloc (.cells #[] 35))) HONE.out (Joins.below_alloc1 _ _))
      refine hK.out _ _ ?_ (fun hH => ?_)
      · exact hk2
      clear hK K
      try simp only [pt]
      refine wpAnyH_ready (rs := [5]) (by kernel_rfl) (by simp) ?_
      refine rdH (fun K hK => ?_) ?_
      · go_simp
        refine hK.out _ _ ?_ (fun hH => ?_)
        · exact hk2
        clear hK K
        try simp only [pt]
        refine wpAnyH_ready (rs := [6]) (by kernel_rfl) (by simp) ?_
        refine rdH (fun K hK => ?_) ?_
        · obtain ⟨a1, c1', w6, hrun, hrw6, hgr6, _⟩ := run_appR ((w0.drew.alloc (.cells #[.int .i64 o, .int .i64 n, .slice a us.length cap] 35)).alloc (.cells #[] 35)) 40 w0.heap.size _ [] HROW.out ak rk.length ck rk (rsAt_below HXP.out HW2.out) HCN.out.1 HCN.out.2 (by have := HKB.out; simp; omega) HW2.out.size
          simp only [List.length_nil, Nat.zero_add, List.nil_append] at hrun hrw6
          have HW3 := Lib.hid (belR HROW.out HW2.out hgr6 HW2.out.size)
          have hk3 := HK7.out _ HW3.out
          have HROW1 := Lib.hid hrw6
          have ck3 : w6.cell? ⟨b, 4, none⟩ = some (.slice ak rk.length ck) := (HQ0.out.next HW3.out).c4
          have HONE := Lib.hid (rsAt_keep HONE.out fun _ g off e => hgr6.block g (by cases e; first | (simp; done) | (simp; omega)) (by cases e; simp [Value.ownBlock]))
          clear hrw6 hgr6
          refine step_append_run (by rfl) (.tmp 41) (.tmp 45) 40 rfl _ _ _ rfl rfl hrun ?_
          refine hK.out _ _ ?_ (fun hH => ?_)
          · exact hk3
          clear hK K
          try simp only [pt]
          refine wpAnyH_ready (rs := [9]) (by kernel_rfl) (by simp) ?_
          refine rdH (fun K hK => ?_) ?_
          · obtain ⟨a2, c2, w8, hrun9, hrw8, hgr8, _⟩ := run_appR w6 40 w0.heap.size _ rk HROW1.out (some ⟨w0.heap.size, 0, none⟩) 1 1 [⟨o, n, a, us.length, cap, us⟩] HONE.out (Nat.le_refl _) (fun e => by cases e) (by have := HKB.out; omega) HW3.out.size
            have HW8 := Lib.hid (belR HROW1.out HW3.out hgr8 HW3.out.size)
            have hk9 := HK7.out _ HW8.out
            have HROW2 := Lib.hid hrw8
            clear hrw8 hgr8
            refine step_append_run (by rfl) (.tmp 46) (.tmp 48) 40 rfl _ _ _ rfl rfl hrun9 ?_
            refine hK.out _ _ ?_ (fun hH => ?_)
            · exact hk9
            clear hK K
            try simp only [pt]
            refine tkH 10 ?_ ?_ ?_
            rotate_left
            · intro w h; try dsimp only at h
              obtain ⟨q0, q1, q2⟩ := h; go_simp; all_goals with_reducible rfl
            try simp only [pt]
            refine tkH 11 ?_ ?_ ?_
            rotate_left
            · intro w h; try dsimp only at h
              obtain ⟨q0, q1, q2⟩ := h; go_simp; all_goals with_reducible rfl
            try simp only [pt]
            refine wpAnyH_ready (rs := [12]) (by kernel_rfl) (by simp) ?_
            refine rdH (fun K hK => ?_) ?_
            · have hrb9 := (HR0.out.next HW8.out).setnew HNB.out 4 (.slice a2 (rk.length + 1) c2)
              have hs9 : (w8.setCell ⟨b, 4, none⟩ (.slice a2 (rk.length + 1) c2)).cell? ⟨w.heap.size, 0, none⟩ = some (.int .i64 o) ∧ (w8.setCell ⟨b, 4, none⟩ (.slice a2 (rk.length + 1) c2)).cell? ⟨w.heap.size, 1, none⟩ = some (.int .i64 n) ∧ (w8.setCell ⟨b, 4, none⟩ (.slice a2 (rk.length + 1) c2)).cell? ⟨w.heap.size, 2, none⟩ = some (.slice a us.length cap) := ⟨hrb9.c0, hrb9.c1, hrb9.c2⟩
              have gb := (HQ0.out.next HW8.out).f0 4
              have ck9 : w8.cell? ⟨b, 4, none⟩ = some (.slice ak rk.length ck) := (HQ0.out.next HW8.out).c4
              clear hrb9
              go_simp
              refine hK.out _ _ ?_ (fun hH => ?_)
              · exact hs9
              clear hK K
              try simp only [pt]
              refine wpAnyH_done (by kernel_rfl) ?_ _
              have HFIN := Lib.hid (et_fin (r := ⟨o, n, a, us.length, cap, us⟩) (s0 := { s with k := s.k + 1 }) HQ.out HQ0.out HM0.out HLV0.out HRU0.out HRM0.out HW8.out HROW2.out)
              clear hs9 HK7 hrun hrun9 hk0 hk9
              go_wp2
              go_ret
              exact ⟨rfl, HFIN.out⟩
            exact AllReadyH.nil
          exact AllReadyH.nil
        exact AllReadyH.nil
      exact AllReadyH.nil
    refine rdH (fun K hK => ?_) ?_
    · go_simp
      refine hK.out _ _ ?_ (fun hH => ?_)
      · exact hk1
      clear hK K
      try simp only [pt]
      refine wpAnyH_ready (rs := [1]) (by kernel_rfl) (by simp) ?_
      refine rdH (fun K hK => ?_) ?_
      · go_simp
        have HW2 : Hid (Below w0.heap.size w0 ((w0.drew.alloc (.cells #[.int .i64 o, .int .i64 n, .slice a us.length cap] 35)).alloc (.cells #[] 35))) := Lib.hid (Below.step HW1.out (.cells #[] 35) (Below.refl _ _))
        have hk2 := HK7.out _ HW2.out
        have ck2 : ((w0.alloc (.cells #[.int .i64 o, .int .i64 n, .slice a us.length cap] 35)).alloc (.cells #[] 35)).cell? ⟨b, 4, none⟩ = some (.slice ak rk.length ck) := (HQ0.out.next HW2.out).c4
        have HROW : Hid (RowR w0.heap.size ((w0.drew.alloc (.cells #[.int .i64 o, .int .i64 n, .slice a us.length cap] 35)).alloc (.cells #[] 35)) (.slice (some ⟨w0.heap.size + 1, 0, none⟩) 0 0) []) := Lib.hid (by
          have := RowR.lower (rowR_new (w0.drew.alloc (.cells #[.int .i64 o, .int .i64 n, .slice a us.length cap] 35))) (show w0.heap.size ≤ (w0.drew.alloc (.cells #[.int .i64 o, .int .i64 n, .slice a us.length cap] 35)).heap.size by simp)
          rw [show (w0.drew.alloc (.cells #[.int .i64 o, .int .i64 n, .slice a us.length cap] 35)).heap.size = w0.heap.size + 1 by simp] at this
          exact this)
        have HONE := Lib.hid (rsAt_below (w' := ((w0.drew.alloc (.cells #[.int .i64 o, .int .i64 n, .slice a us.length cap] 35)).alloc (.cells #[] 35))) HONE.out (Joins.below_alloc1 _ _))
        refine hK.out _ _ ?_ (fun hH => ?_)
        · exact hk2
        clear hK K
        try simp only [pt]
        refine wpAnyH_ready (rs := [6]) (by kernel_rfl) (by simp) ?_
        refine rdH (fun K hK => ?_) ?_
        · obtain ⟨a1, c1', w6, hrun, hrw6, hgr6, _⟩ := run_appR ((w0.drew.alloc (.cells #[.int .i64 o, .int .i64 n, .slice a us.length cap] 35)).alloc (.cells #[] 35)) 40 w0.heap.size _ [] HROW.out ak rk.length ck rk (rsAt_below HXP.out HW2.out) HCN.out.1 HCN.out.2 (by have := HKB.out; simp; omega) HW2.out.size
          simp only [List.length_nil, Nat.zero_add, List.nil_append] at hrun hrw6
          have HW3 := Lib.hid (belR HROW.out HW2.out hgr6 HW2.out.size)
          have hk3 := HK7.out _ HW3.out
          have HROW1 := Lib.hid hrw6
          have ck3 : w6.cell? ⟨b, 4, none⟩ = some (.slice ak rk.length ck) := (HQ0.out.next HW3.out).c4
          have HONE := Lib.hid (rsAt_keep HONE.out fun _ g off e => hgr6.block g (by cases e; first | (simp; done) | (simp; omega)) (by cases e; simp [Value.ownBlock]))
          clear hrw6 hgr6
          refine step_append_run (by rfl) (.tmp 41) (.tmp 45) 40 rfl _ _ _ rfl rfl hrun ?_
          refine hK.out _ _ ?_ (fun hH => ?_)
          · exact hk3
          clear hK K
          try simp only [pt]
          refine wpAnyH_ready (rs := [9]) (by kernel_rfl) (by simp) ?_
          refine rdH (fun K hK => ?_) ?_
          · obtain ⟨a2, c2, w8, hrun9, hrw8, hgr8, _⟩ := run_appR w6 40 w0.heap.size _ rk HROW1.out (some ⟨w0.heap.size, 0, none⟩) 1 1 [⟨o, n, a, us.length, cap, us⟩] HONE.out (Nat.le_refl _) (fun e => by cases e) (by have := HKB.out; omega) HW3.out.size
            have HW8 := Lib.hid (belR HROW1.out HW3.out hgr8 HW3.out.size)
            have hk9 := HK7.out _ HW8.out
            have HROW2 := Lib.hid hrw8
            clear hrw8 hgr8
            refine step_append_run (by rfl) (.tmp 46) (.tmp 48) 40 rfl _ _ _ rfl rfl hrun9 ?_
            refine hK.out _ _ ?_ (fun hH => ?_)
            · exact hk9
            clear hK K
            try simp only [pt]
            refine tkH 10 ?_ ?_ ?_
            rotate_left
            · intro w h; try dsimp only at h
              obtain ⟨q0, q1, q2⟩ := h; go_simp; all_goals with_reducible rfl
            try simp only [pt]
            refine tkH 11 ?_ ?_ ?_
            rotate_left
            · intro w h; try dsimp only at h
              obtain ⟨q0, q1, q2⟩ := h; go_simp; all_goals with_reducible rfl
            try simp only [pt]
            refine wpAnyH_ready (rs := [12]) (by kernel_rfl) (by simp) ?_
            refine rdH (fun K hK => ?_) ?_
            · have hrb9 := (HR0.out.next HW8.out).setnew HNB.out 4 (.slice a2 (rk.length + 1) c2)
              have hs9 : (w8.setCell ⟨b, 4, none⟩ (.slice a2 (rk.length + 1) c2)).cell? ⟨w.heap.size, 0, none⟩ = some (.int .i64 o) ∧ (w8.setCell ⟨b, 4, none⟩ (.slice a2 (rk.length + 1) c2)).cell? ⟨w.heap.size, 1, none⟩ = some (.int .i64 n) ∧ (w8.setCell ⟨b, 4, none⟩ (.slice a2 (rk.length + 1) c2)).cell? ⟨w.heap.size, 2, none⟩ = some (.slice a us.length cap) := ⟨hrb9.c0, hrb9.c1, hrb9.c2⟩
              have gb := (HQ0.out.next HW8.out).f0 4
              have ck9 : w8.cell? ⟨b, 4, none⟩ = some (.slice ak rk.length ck) := (HQ0.out.next HW8.out).c4
              clear hrb9
              go_simp
              refine hK.out _ _ ?_ (fun hH => ?_)
              · exact hs9
              clear hK K
              try simp only [pt]
              refine wpAnyH_done (by kernel_rfl) ?_ _
              have HFIN := Lib.hid (et_fin (r := ⟨o, n, a, us.length, cap, us⟩) (s0 := { s with k := s.k + 1 }) HQ.out HQ0.out HM0.out HLV0.out HRU0.out HRM0.out HW8.out HROW2.out)
              clear hs9 HK7 hrun hrun9 hk0 hk9
              go_wp2
              go_ret
              exact ⟨rfl, HFIN.out⟩
            exact AllReadyH.nil
          exact AllReadyH.nil
        exact AllReadyH.nil
      exact AllReadyH.nil
    exact AllReadyH.nil
  exact AllReadyH.nil
theorem dtake_any (hkl : s.kn.length ≤ 1000) (hul : s.uss.length ≤ 1000) (r : Rn) (hrm : 0 < r.len → ∀ g off, r.a = some ⟨g, off, none⟩ → M g) (w : World) (hu : Ru w r) (hq : Dq B w b jb FJ M ak rk.length ck rk ap rp.length cp rp (s.uss.drop s.k) ao lo co s) :
    Calls Tryd.prog 37 #[.pointer (some ⟨b, 0, none⟩), rv r] w fun e w' => e = .returned (.int .i64 (s.takeE (kR r))) ∧ ∃ D', DkW B w w' b (Df b FJ M) D' (s.take (kR r)) := by
  obtain ⟨o, n, a, len, cap, us⟩ := r
  obtain rfl : us.length = len := hu.1.size
  have hdk : Dk B w b (Df b FJ M) s := ⟨jb, FJ, M, ak, rk.length, ck, rk, ap, rp.length, cp, rp, ao, lo, co, hq, rfl⟩
  have hpl := hq.po.len
  rw [List.length_drop] at hpl
  have hkl2 : rk.length ≤ 1000 := by rw [← hq.km, List.length_map] at hkl; exact hkl
  by_cases ho : o = s.o
  · by_cases hk : s.k < s.uss.length
    · have h0 : 0 < rp.length := by omega
      have hnum := (hq.po.at' 0 (by rw [List.length_drop]; omega)).2.1
      rw [Nat.add_zero] at hnum
      by_cases hb : n = ((s.k + 1 : Nat) : Int)
      · have e0 : s.takeE (kR ⟨o, n, a, us.length, cap, us⟩) = 0 := by show takeE _ _ _ o n = 0; unfold takeE; rw [if_pos ho, if_pos ⟨hk, hb⟩]
        have e1 : s.take (kR ⟨o, n, a, us.length, cap, us⟩) = { s with kn := s.kn ++ [(o, n, us)], k := s.k + 1 } := by
          unfold Cs.take
          rw [if_pos e0, if_pos (show (kR ⟨o, n, a, us.length, cap, us⟩).1 = s.o from ho)]
          rfl
        rw [e0, e1]
        exact dtake_own o n a cap us hkl2 hrm ho h0 (hnum.trans hb.symm) (by omega) w hu hq
      · have e0 : s.takeE (kR ⟨o, n, a, us.length, cap, us⟩) = 10 := by show takeE _ _ _ o n = 10; unfold takeE; rw [if_pos ho, if_neg fun x => hb x.2]
        rw [e0, take_no (by rw [e0]; decide)]
        refine (dtake_bad o n a cap us ho h0 (fun x => hb (x.symm.trans hnum)) w hq).mono ?_
        rintro e w' ⟨rfl, hb'⟩
        exact ⟨rfl, _, dkW_no hdk hb'⟩
    · have e0 : s.takeE (kR ⟨o, n, a, us.length, cap, us⟩) = 10 := by show takeE _ _ _ o n = 10; unfold takeE; rw [if_pos ho, if_neg fun x => hk x.1]
      rw [e0, take_no (by rw [e0]; decide)]
      refine (dtake_none o n a cap us ho (by omega) w hq).mono ?_
      rintro e w' ⟨rfl, hb'⟩
      exact ⟨rfl, _, dkW_no hdk hb'⟩
  · have e0 : s.takeE (kR ⟨o, n, a, us.length, cap, us⟩) = 0 := by show takeE _ _ _ o n = 0; unfold takeE; rw [if_neg ho]
    have e1 : s.take (kR ⟨o, n, a, us.length, cap, us⟩) = { s with kn := s.kn ++ [(o, n, us)] } := by
      unfold Cs.take
      rw [if_pos e0, if_neg (show ¬ (kR ⟨o, n, a, us.length, cap, us⟩).1 = s.o from ho)]
      rfl
    rw [e0, e1]
    exact dtake_other o n a cap us hkl2 hrm ho w hu hq
end
end Go.Proofs.YtbbgibekplfacaaDoor
