/- LinkQuiet. -/
import Derived.Test.YtclobdejlihblaaJB
namespace Go.Proofs.Ytclobdejlihblaa
open Go Go.RowKit
set_option maxRecDepth 20000
theorem frames_len {E : En} (h : E.ds.length ≤ 16) : E.frames.length ≤ 16 := by
  unfold En.frames
  split
  · simp
  · split
    · simp
    · rw [frs_len]; exact h
theorem frames_max {E : En} (h : E.ep ≠ 0) : E.frames.length = max E.ds.length 1 := by
  unfold En.frames
  rw [if_neg h]
  split
  · simp; omega
  · rw [frs_len]; omega
section
variable {ep x1 x2 : Int} {D : List ByteArray} {F : List Fra} {i : Nat}
theorem quiet_get (hF : F = (⟨ep, x1, x2, false, 0, D, 0, []⟩ : En).frames) (hi : i < F.length) : ∃ s d, F.getD i fr0 = (ep, s, 0, d) := by
  subst hF
  unfold En.frames at *
  split at hi
  · simp at hi
  · rename_i h0
    rw [if_neg h0]
    split at hi
    · rename_i hd
      rw [if_pos hd]
      obtain rfl : i = 0 := by simpa using hi
      exact ⟨_, _, rfl⟩
    · rename_i hd
      rw [if_neg hd]
      rw [frs_len] at hi
      rw [frs_get _ _ _ _ i hi]
      exact ⟨_, _, rfl⟩
theorem quiet_none (hF : F = (⟨ep, x1, x2, false, 0, D, 0, []⟩ : En).frames) (h0 : ep ≠ 0) (hd : D.length = 0) (hi : i < F.length) : (F.getD i fr0).2.1 = 0 := by
  subst hF
  unfold En.frames at *
  rw [if_neg h0, if_pos hd] at hi ⊢
  obtain rfl : i = 0 := by simpa using hi
  rfl
theorem quiet_some (hF : F = (⟨ep, x1, x2, false, 0, D, 0, []⟩ : En).frames) (h0 : ep ≠ 0) (hd : D.length ≠ 0) (hi : i < F.length) : (F.getD i fr0).2.1 = ((i + 1 : Nat) : Int) := by
  subst hF
  unfold En.frames at *
  rw [if_neg h0, if_neg hd] at hi ⊢
  rw [frs_len] at hi
  rw [frs_get _ _ _ _ i hi]
  simp
end
theorem owns_n {B : Nat} {w : World} {v : Value} {F : List Fra} {n : Nat} (h : RowF B w v F) (hn : F.length = n) : w.ownsRow B 31 4 v n (flF F) := by subst hn; exact h
/-- How it stands within LinkQuiet's second loop, before the frame i. -/
structure QL (B0 : Nat) (w wr : World) (b bs br : Nat) (E : En) (n : Nat) (F : List Fra) (al : Option Addr) (cl : Nat) (am : Option Addr) (cm i : Nat) : Prop where
  tu : Tu B0 w wr b bs br E
  own : ∃ xs, wr.ownsRow B0 31 4 (.slice al n cl) n xs ∧ ∀ j, i * 4 ≤ j → xs[j]? = (flF F)[j]?
  m : RowF B0 wr (.slice am n cm) F
  ne : ∀ j, (Value.slice al n cl).ownBlock = some j → (Value.slice am n cm).ownBlock ≠ some j
section
variable {B0 : Nat} {w wr wr' : World} {b bs br : Nat} {E : En} {n : Nat} {F : List Fra} {al am : Option Addr} {cl cm i : Nat}
theorem QL.next (h : QL B0 w wr b bs br E n F al cl am cm i) (hb : Below wr.heap.size wr wr') : QL B0 w wr' b bs br E n F al cl am cm i := by
  obtain ⟨xs, h1, h2⟩ := h.own
  exact ⟨h.tu.next hb, ⟨xs, World.ownsRow.kept h1 (grownOf none hb) (Classical.em _), h2⟩, h.m.below hb, h.ne⟩
theorem QL.asit (h : QL B0 w wr b bs br E n F al cl am cm i) (e : wr'.heap = wr.heap) (e1 : wr'.os = wr.os) (e2 : wr'.tape = wr.tape) (e3 : wr'.output = wr.output) : QL B0 w wr' b bs br E n F al cl am cm i := h.next (below_asit e e1 e2 e3)
theorem QL.is (h : QL B0 w wr b bs br E n F al cl am cm i) (hi : i < n) : ∃ g, al = some ⟨g, 0, none⟩ := by
  obtain ⟨xs, h1, h2⟩ := h.own
  rcases h1.2 with ⟨e, h0⟩ | ⟨g, cap, cur, e, hb, hg, _⟩
  · omega
  · cases e; exact ⟨g, rfl⟩
theorem QL.cells (h : QL B0 w wr b bs br E n F al cl am cm i) (hi : i < n) : ∃ g, al = some ⟨g, 0, none⟩ ∧ F4 wr g (i * 4) (F.getD i fr0) := by
  obtain ⟨g, rfl⟩ := h.is hi
  obtain ⟨xs, h1, h2⟩ := h.own
  have hn : F.length = n := by
    rcases h.m.is with ⟨a, c, e, _⟩
    cases e; rfl
  refine ⟨g, rfl, ?_⟩
  have k0 := World.ownsRow.cellAt h1 (i * 4) (by omega)
  have k1 := World.ownsRow.cellAt h1 (i * 4 + 1) (by omega)
  have k2 := World.ownsRow.cellAt h1 (i * 4 + 2) (by omega)
  have k3 := World.ownsRow.cellAt h1 (i * 4 + 3) (by omega)
  rw [h2 _ (by omega)] at k0 k1 k2 k3
  rw [flF_get F i 1 (by omega) (by decide)] at k1
  rw [flF_get F i 2 (by omega) (by decide)] at k2
  rw [flF_get F i 3 (by omega) (by decide)] at k3
  have hg := flF_get F i 0 (by omega) (by decide)
  rw [Nat.add_zero] at hg
  rw [hg] at k0
  exact ⟨k0, k1, k2, k3⟩
theorem QL.stores (h : QL B0 w wr b bs br E n F al cl am cm i) (hi : i < n) : ∃ g, al = some ⟨g, 0, none⟩ ∧ (∃ u, wr.cell? ⟨g, i * 4, none⟩ = some u) ∧ (∃ u, wr.cell? ⟨g, i * 4 + 1, none⟩ = some u) ∧ (∃ u, wr.cell? ⟨g, i * 4 + 2, none⟩ = some u) ∧ (∃ u, wr.cell? ⟨g, i * 4 + 3, none⟩ = some u) ∧ wr.frozen? ⟨g, i * 4, none⟩ = false ∧ wr.frozen? ⟨g, i * 4 + 1, none⟩ = false ∧ wr.frozen? ⟨g, i * 4 + 2, none⟩ = false ∧ wr.frozen? ⟨g, i * 4 + 3, none⟩ = false := by
  obtain ⟨g, rfl⟩ := h.is hi
  obtain ⟨xs, h1, h2⟩ := h.own
  have hl := h1.1
  have hc : ∀ j, j < n * 4 → ∃ u, wr.cell? ⟨g, j, none⟩ = some u := fun j hj => ⟨_, (World.ownsRow.cellAt h1 j hj).trans (List.getElem?_eq_getElem (by omega))⟩
  exact ⟨g, rfl, hc _ (by omega), hc _ (by omega), hc _ (by omega), hc _ (by omega), World.ownsRow.frozenAt h1 _, World.ownsRow.frozenAt h1 _, World.ownsRow.frozenAt h1 _, World.ownsRow.frozenAt h1 _⟩
theorem QL.store {g : Nat} (h : QL B0 w wr b bs br E n F (some ⟨g, 0, none⟩) cl am cm i) (x y z u : Value) : QL B0 w ((((wr.setCell ⟨g, i * 4, none⟩ x).setCell ⟨g, i * 4 + 1, none⟩ y).setCell ⟨g, i * 4 + 2, none⟩ z).setCell ⟨g, i * 4 + 3, none⟩ u) b bs br E n F (some ⟨g, 0, none⟩) cl am cm (i + 1) := by
  obtain ⟨xs, h1, h2⟩ := h.own
  have hl := h1.1
  obtain ⟨s1, g1⟩ := World.ownsRow.stored h1 (i * 4) x
  obtain ⟨s2, g2⟩ := World.ownsRow.stored s1 (i * 4 + 1) y
  obtain ⟨s3, g3⟩ := World.ownsRow.stored s2 (i * 4 + 2) z
  obtain ⟨s4, g4⟩ := World.ownsRow.stored s3 (i * 4 + 3) u
  have hgr := World.grownBy.trans (World.grownBy.trans (World.grownBy.trans g1 g2) g3) g4
  refine ⟨h.tu.grown hgr (fun j hj => ?_), ⟨_, s4, fun j hj => ?_⟩, h.m.kept hgr (.inr (h.ne g rfl)), h.ne⟩
  · cases hj
    rcases h1.2 with ⟨e', _⟩ | ⟨g', cap', cur', e', hb', hg', _⟩
    · cases e'
    · cases e'
      exact ⟨hb', _, _, _, hg', by decide, by decide, by decide, by decide⟩
  · rw [List.getElem?_set_ne (by omega), List.getElem?_set_ne (by omega), List.getElem?_set_ne (by omega), List.getElem?_set_ne (by omega)]
    exact h2 j (by omega)
end
set_option maxHeartbeats 4000000 in
theorem quiet_not (x0 x1 x2 : Int) (a : Option Addr) (len cap : Nat) (hl : 40 < len) (w : World) :
    Calls Try.prog 6 #[.agg #[.int .i64 x0, .int .i64 x1, .int .i64 x2], .slice a len cap] w fun e w' => e = .returned (.bool true) ∧ Below w.heap.size w w' := by
  have k1 : (40 : Int) < (len : Int) := by omega
  have HW := Lib.hid (Joins.below_alloc1 w (.cells #[.int .i64 x0, .int .i64 x1, .int .i64 x2] 22))
  go_enter Try.func6, Try.ntmps6
  go_wp2_with fail
  refine (tu_new x0 x1 x2 false HW.out (by simp)).mono ?_
  rintro e w1 ⟨rfl, ⟨bs, br, h⟩, _⟩
  generalize hb : (w.alloc (.cells #[.int .i64 x0, .int .i64 x1, .int .i64 x2] 22)).heap.size = b at h ⊢
  generalize hB0 : w.heap.size = B0 at *
  have HB0 := Lib.hid hB0
  have H1 := Lib.hid h
  clear h hB0 HW hb
  go_wp2_with fail
  refine (awake_yes _).mono ?_
  rintro e w2 ⟨rfl, hb⟩
  have H2 := Lib.hid (H1.out.next hb)
  clear hb H1
  go_wp2_with fail
  refine (awake_yes _).mono ?_
  rintro e w3 ⟨rfl, hb⟩
  have H3 := Lib.hid (H2.out.next hb)
  clear hb H2
  go_wp2
  go_ret
  exact ⟨rfl, by rw [HB0.out]; exact H3.out.bel⟩
set_option maxHeartbeats 16000000 in
theorem quiet_yes (x0 x1 x2 : Int) (a : Option Addr) (len cap : Nat) (hl : ¬ 40 < len) (ts : List ByteArray) (w : World) (hi : SsAt w a len ts) :
    Calls Try.prog 6 #[.agg #[.int .i64 x0, .int .i64 x1, .int .i64 x2], .slice a len cap] w fun e w' => e = .returned (.bool true) ∧ Below w.heap.size w w' := by
  have k1 : decide ((40 : Int) < (len : Int)) = false := decide_eq_false (by omega)
  have HI := Lib.hid hi
  clear hi
  have HW := Lib.hid (Joins.below_alloc1 w (.cells #[.int .i64 x0, .int .i64 x1, .int .i64 x2] 22))
  go_enter Try.func6, Try.ntmps6
  go_wp2_with fail
  refine (tu_new x0 x1 x2 false HW.out (by simp)).mono ?_
  rintro e w1 ⟨rfl, ⟨bs, br, h⟩, _⟩
  generalize hb : (w.alloc (.cells #[.int .i64 x0, .int .i64 x1, .int .i64 x2] 22)).heap.size = b at h ⊢
  generalize hB0 : w.heap.size = B0 at *
  have HB0 := Lib.hid hB0
  have H1 := Lib.hid h
  clear h hB0 HW hb
  go_wp2_with fail
  refine (awake_yes _).mono ?_
  rintro e w2 ⟨rfl, hb⟩
  have H2 := Lib.hid (H1.out.next hb)
  clear hb H1
  go_wp2_with fail
  generalize hep : clampE x0 = ep at *
  clear hep
  go_loopw [33] (fun v33 wr => ∃ i : Nat, i ≤ len ∧ v33 = .int .i64 i ∧ ∃ D, Tu B0 w wr b bs br ⟨ep, x1, x2, false, 0, D, 0, []⟩) (fun v33 _ => len - (intOf v33).toNat)
  case atStart => exact ⟨0, Nat.zero_le _, rfl, _, H2.out⟩
  case round =>
    obtain ⟨i, hi, rfl, D, h⟩ := hrel
    clear H2
    by_cases hlt : i < len
    · obtain ⟨g, off, rfl, hgl, hc⟩ := HI.out.lies (by omega)
      have c0 := (h.bel.cell (p := ⟨g, off + i, none⟩) (by rw [← HB0.out]; exact hgl)).trans (hc i (by have := HI.out.size; omega))
      have H := Lib.hid h
      clear h hc hgl
      generalize ts.getD i emp = x at *
      by_cases hx : 50 < x.size
      · have k2 : (50 : Int) < (x.size : Int) := by omega
        go_wp2
        go_ret
        exact ⟨rfl, by rw [HB0.out]; exact H.out.bel⟩
      have k2 : ¬ (50 : Int) < (x.size : Int) := by omega
      go_wp2_with fail
      refine (tu_off x (by omega) H.out).mono ?_
      rintro e w3 ⟨rfl, h3, _⟩
      have H3 := Lib.hid h3
      clear h3 H
      go_wp2
      go_roundw
      case rel => exact ⟨i + 1, by omega, by go_num, _, H3.out⟩
      case measure => simp [intOf]; omega
    · obtain rfl : i = len := by omega
      have H := Lib.hid h
      clear h
      obtain ⟨F, hF⟩ : ∃ F, (⟨ep, x1, x2, false, 0, D, 0, []⟩ : En).frames = F := ⟨_, rfl⟩
      obtain ⟨n, hn⟩ : ∃ n, F.length = n := ⟨_, rfl⟩
      have HFF := Lib.hid hF.symm
      have HN := Lib.hid hn
      have hl : D.length ≤ 16 := by
        obtain ⟨v, L, hx⟩ := H.out.ex
        have := hx.sn.ok.len; have := hx.sn.ok.w2; simp only at *; omega
      clear hF hn
      go_wp2_with fail
      refine (tu_frames (F := F) (n := n) HFF.out.symm HN.out H.out).mono ?_
      rintro e w3 ⟨al, cl, rfl, hr, hb, h3⟩
      have H3 := Lib.hid h3
      have HR3 := Lib.hid hr
      have HLER := Lib.hid H.out.le
      clear hr hb h3 H
      go_wp2_with fail
      refine (tu_frames (F := F) (n := n) HFF.out.symm HN.out H3.out).mono ?_
      rintro e w4 ⟨am, cm, rfl, hr, hb, h4⟩
      have H4 := Lib.hid h4
      have HR4 := Lib.hid (HR3.out.below hb)
      have HM4 := Lib.hid hr
      have HNE : Hid (∀ j, (Value.slice al n cl).ownBlock = some j → (Value.slice am n cm).ownBlock ≠ some j) := Lib.hid fun j hj hk => by
        have := (HR3.out.lt j hj).2
        have := (hr.lt j hk).1
        omega
      have HLE := Lib.hid (Nat.le_trans H3.out.le hb.size)
      have HLE3 := Lib.hid H3.out.le
      clear hr hb h4 H3
      have HNS : Hid (n ≤ 16) := Lib.hid (by rw [← HN.out, HFF.out]; exact frames_len hl)
      go_wp2_with fail
      refine (samef_yes _ _ _ _ _ F (by have := HNS.out; omega) _ (HR4.out.isF HN.out.symm).1 (HM4.out.isF HN.out.symm).1).mono ?_
      rintro e w5 ⟨rfl, e1, e2, e3, e4⟩
      have H5 := Lib.hid (H4.out.asit e1 e2 e3 e4)
      have HR5 := Lib.hid (HR4.out.asit e1)
      have HM5 := Lib.hid (HM4.out.asit e1)
      clear e1 e2 e3 e4 H4 HR4 HM4
      by_cases hz : ep = 0
      · subst hz
        have hn0 : n = 0 := by rw [← HN.out, HFF.out]; rfl
        subst hn0
        go_wp2_with fail
        refine (tu_epoch (n := 0) rfl _ H5.out).mono ?_
        rintro e w6 ⟨rfl, rfl⟩
        go_wp2
        go_ret
        exact ⟨rfl, by rw [HB0.out]; exact H5.out.bel⟩
      have HEP := Lib.hid hz
      have k3 : (ep == 0) = false := by simpa using hz
      have k4 : decide (ep = 0) = false := by simpa using hz
      have HNL : Hid (n = max D.length 1) := Lib.hid (by rw [← HN.out, HFF.out]; exact frames_max hz)
      have HQ : Hid (QL B0 w w5 b bs br ⟨ep, x1, x2, false, 0, D, 0, []⟩ n F al cl am cm 0) := Lib.hid ⟨H5.out, ⟨_, owns_n (HR5.out.lower HLER.out) HN.out, fun j _ => rfl⟩, HM5.out.lower HLE3.out, HNE.out⟩
      clear HR5 HM5 HNE
      go_wp2_with fail
      refine (tu_epoch (n := ep) rfl _ H5.out).mono ?_
      rintro e w6 ⟨rfl, rfl⟩
      have p4 := H5.out.c4
      by_cases hD : D.length = 0
      · obtain rfl : D = [] := List.eq_nil_of_length_eq_zero hD
        have k9 : max (0 : Int) 1 = (n : Int) := by
          have h1 : n = 1 := HNL.out
          rw [h1]; rfl
        clear hD
        go_wp2_with fail
        refine (tu_unack (n := 0) rfl _ H5.out).mono ?_
        rintro e w6 ⟨rfl, rfl⟩
        clear H5 p4
        go_wp2_with fail
        go_loopw [69] (fun v69 wr => ∃ i : Nat, i ≤ n ∧ v69 = .int .i64 i ∧ QL B0 w wr b bs br ⟨ep, x1, x2, false, 0, [], 0, []⟩ n F al cl am cm i) (fun v69 _ => n - (intOf v69).toNat)
        case atStart => exact ⟨0, Nat.zero_le _, rfl, HQ.out⟩
        case round =>
          obtain ⟨i, hi, rfl, hq⟩ := hrel
          clear HQ
          by_cases hlt : i < n
          · obtain ⟨g, rfl, ff0⟩ := hq.cells hlt
            obtain ⟨s, dd, hf⟩ : ∃ s dd, F.getD i fr0 = (ep, s, 0, dd) := quiet_get HFF.out (by rw [HN.out]; exact hlt)
            have hs := quiet_none HFF.out HEP.out rfl (i := i) (by rw [HN.out]; exact hlt)
            rw [hf] at hs
            simp only at hs
            rw [hf] at ff0
            obtain ⟨c0, c1, c2, c3⟩ := ff0
            simp only at c0 c1 c2 c3
    
            subst hs
            have hq2 := hq.next (Joins.below_alloc1 wr (.cells #[.int .i64 ep, .int .i64 0, .int .i64 0, .string dd] 31))
            have p4 := hq2.tu.c4
            obtain ⟨g', e', ⟨m0, f0⟩, ⟨m1, f1⟩, ⟨m2, f2⟩, ⟨m3, f3⟩, y0, y1, y2, y3⟩ := hq2.stores hlt
            cases e'
            have HQ := Lib.hid hq2
            clear hq hq2 hf
            go_wp2_with fail
            go_quiet (first | (go_at_call 20; exact Calls.quiet_of_same (tu_epoch (n := ep) rfl _ (HQ.out.tu.asit rfl rfl rfl rfl))) | (go_at_call 21; exact Calls.quiet_of_same (tu_unack (n := 0) rfl _ (HQ.out.tu.asit rfl rfl rfl rfl))))
            go_wp2
            go_roundw
            case rel => exact ⟨i + 1, by omega, by go_num, (HQ.out.asit (wr' := (wr.alloc (.cells #[.int .i64 ep, .int .i64 0, .int .i64 0, .string dd] 31)).drewN nq) rfl rfl rfl rfl).store _ _ _ _⟩
            case measure => simp [intOf]; omega
          · obtain rfl : i = n := by omega
            have HQ := Lib.hid hq
            clear hq
            go_wp2_with fail
            refine (tu_frames (F := F) (n := i) (by rw [HFF.out]) HN.out HQ.out.tu).mono ?_
            rintro e w7 ⟨a7, c7, rfl, hr, hb, h7⟩
            have H7 := Lib.hid h7
            have HR7 := Lib.hid hr
            have HMR := Lib.hid (HQ.out.m.below hb)
            clear hr hb h7 HQ
            go_wp2_with fail
            refine (samef_yes _ _ _ _ _ F (by have := HNS.out; omega) _ (HR7.out.isF HN.out.symm).1 (HMR.out.isF HN.out.symm).1).mono ?_
            rintro e w8 ⟨rfl, e1, e2, e3, e4⟩
            have H8 := Lib.hid (H7.out.asit e1 e2 e3 e4)
            clear e1 e2 e3 e4 H7
            go_wp2
            go_ret
            exact ⟨rfl, by rw [HB0.out]; exact H8.out.bel⟩
      · obtain ⟨m, hm⟩ : ∃ m, D.length = m := ⟨_, rfl⟩
        have HM := Lib.hid hm
        have hm0 : m ≠ 0 := by rw [← hm]; exact hD
        have k9 : max (m : Int) 1 = (n : Int) := by have := HNL.out; omega
        clear hm hD
        go_wp2_with fail
        refine (tu_unack (n := m) HM.out _ H5.out).mono ?_
        rintro e w6 ⟨rfl, rfl⟩
        clear H5 p4
        go_wp2_with fail
        have k5 : decide (0 < (m : Int)) = true := decide_eq_true (by omega)
        have k6 : ((m : Int) == 0) = false := beq_eq_false_iff_ne.2 (by omega)
        have k7 : decide ((m : Int) = 0) = false := decide_eq_false (by omega)
        have k12 : decide (0 < m) = true := decide_eq_true (by omega)
        have k13 : 0 < m := by omega
        go_loopw [69] (fun v69 wr => ∃ i : Nat, i ≤ n ∧ v69 = .int .i64 i ∧ QL B0 w wr b bs br ⟨ep, x1, x2, false, 0, D, 0, []⟩ n F al cl am cm i) (fun v69 _ => n - (intOf v69).toNat)
        case atStart => exact ⟨0, Nat.zero_le _, rfl, HQ.out⟩
        case round =>
          obtain ⟨i, hi, rfl, hq⟩ := hrel
          clear HQ
          by_cases hlt : i < n
          · obtain ⟨g, rfl, ff0⟩ := hq.cells hlt
            obtain ⟨s, dd, hf⟩ : ∃ s dd, F.getD i fr0 = (ep, s, 0, dd) := quiet_get HFF.out (by rw [HN.out]; exact hlt)
            have hs := quiet_some HFF.out HEP.out (show D.length ≠ 0 by rw [HM.out]; exact hm0) (i := i) (by rw [HN.out]; exact hlt)
            rw [hf] at hs
            simp only at hs
            rw [hf] at ff0
            obtain ⟨c0, c1, c2, c3⟩ := ff0
            simp only at c0 c1 c2 c3
            have n1 : IntKind.i64.wrap ((i : Int) + 1) = ((i + 1 : Nat) : Int) := by
              rw [show (i : Int) + 1 = ((i + 1 : Nat) : Int) by omega]
              exact i64_id (by omega) (by have := HNS.out; omega)
            obtain ⟨Q, hQ⟩ : ∃ Q : Int, ((i + 1 : Nat) : Int) = Q := ⟨_, rfl⟩
            rw [hQ] at hs n1
            have HSQ := Lib.hid (hQ.trans hs.symm)
            clear hQ
            subst hs
            have hq2 := hq.next (Joins.below_alloc1 wr (.cells #[.int .i64 ep, .int .i64 s, .int .i64 0, .string dd] 31))
            have p4 := hq2.tu.c4
            obtain ⟨g', e', ⟨m0, f0⟩, ⟨m1, f1⟩, ⟨m2, f2⟩, ⟨m3, f3⟩, y0, y1, y2, y3⟩ := hq2.stores hlt
            cases e'
            have HQ := Lib.hid hq2
            clear hq hq2 hf
            go_wp2_with fail
            go_quiet (first | (go_at_call 20; exact Calls.quiet_of_same (tu_epoch (n := ep) rfl _ (HQ.out.tu.asit rfl rfl rfl rfl))) | (go_at_call 21; exact Calls.quiet_of_same (tu_unack (n := m) HM.out _ (HQ.out.tu.asit rfl rfl rfl rfl))))
            go_wp2
            go_roundw
            case rel => exact ⟨i + 1, by omega, by rw [HSQ.out], (HQ.out.asit (wr' := (wr.alloc (.cells #[.int .i64 ep, .int .i64 s, .int .i64 0, .string dd] 31)).drewN nq) rfl rfl rfl rfl).store _ _ _ _⟩
            case measure => (have := HSQ.out; simp [intOf]; omega)
          · obtain rfl : i = n := by omega
            have HQ := Lib.hid hq
            clear hq
            go_wp2_with fail
            refine (tu_frames (F := F) (n := i) (by rw [HFF.out]) HN.out HQ.out.tu).mono ?_
            rintro e w7 ⟨a7, c7, rfl, hr, hb, h7⟩
            have H7 := Lib.hid h7
            have HR7 := Lib.hid hr
            have HMR := Lib.hid (HQ.out.m.below hb)
            clear hr hb h7 HQ
            go_wp2_with fail
            refine (samef_yes _ _ _ _ _ F (by have := HNS.out; omega) _ (HR7.out.isF HN.out.symm).1 (HMR.out.isF HN.out.symm).1).mono ?_
            rintro e w8 ⟨rfl, e1, e2, e3, e4⟩
            have H8 := Lib.hid (H7.out.asit e1 e2 e3 e4)
            clear e1 e2 e3 e4 H7
            go_wp2
            go_ret
            exact ⟨rfl, by rw [HB0.out]; exact H8.out.bel⟩
end Go.Proofs.Ytclobdejlihblaa
