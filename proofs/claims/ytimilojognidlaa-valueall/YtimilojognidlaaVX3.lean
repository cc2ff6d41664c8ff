/- The walk of ValueAll: updates. -/
import Derived.Test.YtimilojognidlaaVX1
import Derived.Test.YtimilojognidlaaVX2
import Derived.Deep.CutRange
namespace Go.Proofs.Ytimilojognidlaa
open Go Go.RowKit
theorem one_kind (v : Vl) (u : Up) : (oneV v u).1 = 0 ∨ (oneV v u).1 = 1 ∨ (oneV v u).1 = 2 := by
  have hb : (bareV v).1 = 0 ∨ (bareV v).1 = 1 ∨ (bareV v).1 = 2 := by
    unfold bareV numV txtV noneV; split
    · simp
    split <;> simp
  unfold oneV madeV
  split
  · exact .inr (.inl rfl)
  split
  · exact .inr (.inr rfl)
  split
  · unfold addV; split
    · exact hb
    · exact .inr (.inl rfl)
  split
  · unfold appV; split
    · exact .inr (.inr rfl)
    split
    · exact hb
    · exact .inr (.inr rfl)
  split
  · exact .inl rfl
  · exact hb
theorem all_kind (us : List Up) : ∀ v : Vl, (v.1 = 0 ∨ v.1 = 1 ∨ v.1 = 2) → ((allV v us).1 = 0 ∨ (allV v us).1 = 1 ∨ (allV v us).1 = 2) := by
  induction us with
  | nil => exact fun v h => h
  | cons u us ih => exact fun v _ => ih _ (one_kind v u)
theorem allV_parts (v : Vl) (us : List Up) (k : Nat) : allV (allV v (us.take k)) (us.drop k) = allV v us := by
  unfold allV; rw [← List.foldl_append, List.take_append_drop]
/-- No update is more than is played: all texts are short. -/
theorem gAll_sh {len : Nat} {us : List Up} (hs : us.length = len) (h : ¬ gAll len us) : ∀ u ∈ us, Sh u.2.2.2 := by
  intro u hu
  obtain ⟨i, hi, rfl⟩ := List.getElem_of_mem hu
  refine gU_sh fun hx => h (.inr ⟨i, by omega, ?_⟩)
  have e : us.getD i up0 = us[i] := by simp [List.getD_eq_getElem?_getD, hi]
  rw [e]; exact hx
theorem isUs_take {w : World} {b off len : Nat} {us : List Up} (h : IsUs w (some ⟨b, off, none⟩) len us) (k : Nat) (hk : k ≤ len) : IsUs w (some ⟨b, off, none⟩) k (us.take k) := by
  refine ⟨by have := h.size; simp; omega, fun h0 => ?_⟩
  obtain ⟨b', off', e, hf⟩ := h.lies (by omega)
  cases e
  have hl : (us.take k).length ≤ us.length := by simp; omega
  have g : ∀ i, i < (us.take k).length → (us.take k).getD i up0 = us.getD i up0 := by
    intro i hi
    have : i < k := by simp at hi; omega
    simp [List.getD_eq_getElem?_getD, this]
  exact ⟨b, off, rfl, ⟨fun i hi => by rw [g i hi]; exact hf.key i (by omega), fun i hi => by rw [g i hi]; exact hf.k i (by omega), fun i hi => by rw [g i hi]; exact hf.n i (by omega), fun i hi => by rw [g i hi]; exact hf.t i (by omega)⟩⟩
theorem isUs_drop {w : World} {b off len : Nat} {us : List Up} (h : IsUs w (some ⟨b, off, none⟩) len us) (k : Nat) (hk : k ≤ len) : IsUs w (some ⟨b, off + k * 4, none⟩) (len - k) (us.drop k) := by
  refine ⟨by have := h.size; simp; omega, fun h0 => ?_⟩
  obtain ⟨b', off', e, hf⟩ := h.lies (by omega)
  cases e
  have hs := h.size
  have g : ∀ i, i < (us.drop k).length → (us.drop k).getD i up0 = us.getD (k + i) up0 ∧ k + i < us.length := by
    intro i hi
    simp at hi
    exact ⟨by simp [List.getD_eq_getElem?_getD, List.getElem?_drop], by omega⟩
  have e : ∀ i, off + k * 4 + i * 4 = off + (k + i) * 4 := fun i => by omega
  exact ⟨b, off + k * 4, rfl, ⟨fun i hi => by rw [(g i hi).1, e]; exact hf.key _ (g i hi).2, fun i hi => by rw [(g i hi).1, e]; exact hf.k _ (g i hi).2, fun i hi => by rw [(g i hi).1, e]; exact hf.n _ (g i hi).2, fun i hi => by rw [(g i hi).1, e]; exact hf.t _ (g i hi).2⟩⟩
theorem size_alloc1 (w : World) (o : Obj) : (w.alloc o).heap.size = w.heap.size + 1 := by simp
theorem four_next {w W w1 w2 : World} {x y v : Vl} {a b c : Nat} (h : Vb w1 a x ∧ Vb w1 b y ∧ Vb w1 c v ∧ Below w.heap.size w w1) (hb : Below W.heap.size W w2) (e1 : W.os = w1.os) (e2 : W.tape = w1.tape) (e3 : W.output = w1.output) (e4 : W.heap = w1.heap) : Vb w2 a x ∧ Vb w2 b y ∧ Vb w2 c v ∧ Below w.heap.size w w2 :=
  ⟨h.1.kept hb e4, h.2.1.kept hb e4, h.2.2.1.kept hb e4, Below.far hb h.2.2.2 e1 e2 e3 e4⟩
theorem kept_by {W w1 : World} {x : Obj} {n : Nat} (hb : Below W.heap.size W w1) (h : W.heap[n]? = some x) : w1.heap[n]? = some x := kept_at h hb
theorem v_drew {W : World} {b : Nat} {k n : Int} {s : ByteArray} (h : W.cell? ⟨b, 0, none⟩ = some (.int .i64 k) ∧ W.cell? ⟨b, 1, none⟩ = some (.int .i64 n) ∧ W.cell? ⟨b, 2, none⟩ = some (.string s)) :
    W.drew.cell? ⟨b, 0, none⟩ = some (.int .i64 k) ∧ W.drew.cell? ⟨b, 1, none⟩ = some (.int .i64 n) ∧ W.drew.cell? ⟨b, 2, none⟩ = some (.string s) := h
set_option maxHeartbeats 8000000 in
theorem all_main (v : Vl) (b off len cap : Nat) (us : List Up) (k : Nat) (hi : isV v) (hg : ¬ gAll len us) (hin : ∀ u ∈ us, In64 u.2.2.1) (hp : 0 < len) (hk : k ≤ len) (hcap : len ≤ cap) (w : World) (hu : IsUs w (some ⟨b, off, none⟩) len us) :
    Calls Try.prog 5 #[vv v, .slice (some ⟨b, off, none⟩) len cap, .int .i64 k] w fun e w' => e = .returned (.bool true) ∧ Below w.heap.size w w' := by
  have hsz := hu.size
  have hsh := gAll_sh hsz hg
  have hl : len ≤ 200 := by unfold gAll at hg; omega
  have hvs := isV_sh hi
  have HI := fun w => Lib.hid (is_yes v hi w)
  have HG := fun w h => Lib.hid (greatAll_no (some ⟨b, off, none⟩) len cap us hg w h)
  have HA := fun a c w h => Lib.hid (all_any v a len c us hvs hsh (by omega) w h)
  have HA1 := fun a c w h => Lib.hid (all_any v a k c (us.take k) hvs (fun u hx => hsh u (List.mem_of_mem_take hx)) (by omega) w h)
  have HA2 := fun a c w h => Lib.hid (all_any (allV v (us.take k)) a (len - k) c (us.drop k) (allV_sh _ (fun u hx => hsh u (List.mem_of_mem_take hx)) _ hvs) (fun u hx => hsh u (List.mem_of_mem_drop hx)) (by omega) w h)
  rw [allV_parts] at HA2
  have HR : ∀ i, i < len → ∀ w, Hid (Calls Try.prog 12 #[vv (allV v (us.take i)), uu (us.getD i up0)] w fun e w' => e = .returned (vv (allV v (us.take (i + 1)))) ∧ Below w.heap.size w w') := by
    intro i hlt w
    have hil : i < us.length := by omega
    have hm : us.getD i up0 ∈ us := by
      have e : us.getD i up0 = us[i] := by simp [List.getD_eq_getElem?_getD, hil]
      rw [e]; exact List.getElem_mem _
    rw [allV_step v us i hil up0]
    exact Lib.hid (ref_any _ _ (all_kind _ _ hi.1) (allV_sh _ (fun u hx => hsh u (List.mem_of_mem_take hx)) _ hvs) (wrap_in64 (hin _ hm)) w)
  have HU := Lib.hid hu
  clear hi hg hin hsh hvs hu
  have q1 : decide ((k : Int) < (0 : Int)) = false := decide_eq_false (by omega)
  have q2 : decide (len < k) = false := decide_eq_false (by omega)
  obtain ⟨vk, vn, vs⟩ := v
  rw [vv_eq]
  simp only [vv_eq (k := vk)] at HI
  go_enter Try.func5, Try.ntmps5
  go_wp2_with fail
  refine (awake_yes _).mono ?_
  rintro e w1 ⟨rfl, hb⟩
  have h1 := one_v_kept (v := (vk, vn, vs)) hb
  obtain ⟨c0, c1, c2⟩ := Vb.c h1.1
  have H := Lib.hid h1
  clear hb h1
  go_wp2_with fail
  refine (HI _).out.mono ?_
  rintro e wx ⟨rfl, hb⟩
  have H2 := Lib.hid (one_v_next H.out hb rfl rfl rfl rfl)
  clear hb H c0 c1 c2
  go_wp2_with fail
  refine (HG _ (isUs_below HU.out H2.out.2)).out.mono ?_
  rintro e wy ⟨rfl, hb⟩
  have h3 := one_v_next H2.out hb rfl rfl rfl rfl
  obtain ⟨c0, c1, c2⟩ := Vb.c h3.1
  have hlt := h3.1.lt
  have H3 := Lib.hid h3
  clear hb H2 h3 HI HG
  go_wp2_with fail
  go_loopw [36] (fun v36 wr => ∃ i : Nat, i ≤ len ∧ v36 = .int .i64 i ∧ Vb wr w.heap.size (vk, vn, vs) ∧ Vb wr wy.heap.size (allV (vk, vn, vs) (us.take i)) ∧ Below w.heap.size w wr) (fun v36 _ => len - (intOf v36).toNat)
  case atStart =>
    refine ⟨0, Nat.zero_le _, rfl, H3.out.1.alloc _, heap_alloc_new _ _, H3.out.2.alloc H3.out.2.size _⟩
  case round =>
    obtain ⟨i, hi, rfl, hvb, hwb, hbel⟩ := hrel
    by_cases hil : i < len
    · have HRI := HR i hil
      clear HR HA HA1 HA2
      obtain ⟨b', off', e, hf⟩ := HU.out.lies (by omega)
      cases e
      have hb := hf.lt (by omega)
      have d0 : wr.cell? ⟨b, off + i * 4, none⟩ = some (.string (us.getD i up0).1) := (hbel.cell hb).trans (hf.key i (by omega))
      have d1 : wr.cell? ⟨b, off + i * 4 + 1, none⟩ = some (.int .i64 (us.getD i up0).2.1) := (hbel.cell hb).trans (hf.k i (by omega))
      have d2 : wr.cell? ⟨b, off + i * 4 + 2, none⟩ = some (.int .i64 (us.getD i up0).2.2.1) := (hbel.cell hb).trans (hf.n i (by omega))
      have d3 : wr.cell? ⟨b, off + i * 4 + 3, none⟩ = some (.string (us.getD i up0).2.2.2) := (hbel.cell hb).trans (hf.t i (by omega))
      clear hf hb
      obtain ⟨⟨rk, rn, rs⟩, HE⟩ : ∃ r, Hid (allV (vk, vn, vs) (us.take (i + 1)) = r) := ⟨_, Lib.hid rfl⟩
      rw [HE.out] at HRI
      generalize allV (vk, vn, vs) (us.take i) = t at *
      generalize us.getD i up0 = u at *
      obtain ⟨tk, tn, ts⟩ := t
      obtain ⟨key, ux, um, ut⟩ := u
      simp only [vv_eq, uu] at HRI d0 d1 d2 d3
      obtain ⟨e0, e1, e2⟩ := Vb.c hwb
      have hlw := hwb.lt
      have HVB := Lib.hid hvb
      have HWB := Lib.hid hwb
      have HBEL := Lib.hid hbel
      clear hvb hwb hbel c0 c1 c2
      go_wp2_with fail
      refine (HRI _).out.mono ?_
      rintro e wz ⟨rfl, hb⟩
      have hv2 := (HVB.out.alloc _).kept hb rfl
      have hw2 := (HWB.out.alloc _).kept hb rfl
      have hB2 := Below.far2 HBEL.out hb (Joins.below_alloc1 wr _)
      have g0 := cell_at hw2 0 (.int .i64 tk) rfl
      have g1 := cell_at hw2 1 (.int .i64 tn) rfl
      have g2 := cell_at hw2 2 (.string ts) rfl
      have f0 := unfrozen_at hw2 0
      have f1 := unfrozen_at hw2 1
      have f2 := unfrozen_at hw2 2
      have HV2 := Lib.hid hv2
      have HW2 := Lib.hid hw2
      have HB2 := Lib.hid hB2
      clear hb hv2 hw2 hB2 HVB HWB HBEL d0 d1 d2 d3 e0 e1 e2
      go_wp2_with fail
      go_roundw
      case rel =>
        refine ⟨i + 1, by omega, by go_num, HV2.out.other (by omega) _ _ _, ?_, below_set3 HB2.out (by omega) _ _ _⟩
        rw [HE.out]; exact HW2.out.set _ _ _
      case measure => simp [intOf]; omega
    · obtain rfl : i = len := by omega
      rw [List.take_of_length_le (by omega)] at hwb
      obtain ⟨⟨rk, rn, rs⟩, HE⟩ : ∃ r, Hid (allV (vk, vn, vs) us = r) := ⟨_, Lib.hid rfl⟩
      obtain ⟨⟨tk, tn, ts⟩, HF⟩ : ∃ r, Hid (allV (vk, vn, vs) (us.take k) = r) := ⟨_, Lib.hid rfl⟩
      rw [HE.out] at hwb HA HA2
      rw [HF.out] at HA1 HA2
      simp only [vv_eq] at HA HA1 HA2
      obtain ⟨e0, e1, e2⟩ := Vb.c hvb
      have hlw := hwb.lt
      have HVB := Lib.hid hvb
      have HWB := Lib.hid hwb
      have HBEL := Lib.hid hbel
      clear hvb hwb hbel c0 c1 c2 HR HE HF hi hil
      go_wp2_with fail
      go_cut [10] from 44 to 48 (fun v10 wx => ∃ g, v10 = .pointer (some ⟨g, 0, none⟩) ∧ Vb wx g (rk, rn, rs) ∧ wr.heap.size ≤ g ∧ Below wr.heap.size wr wx)
      case first =>
        go_region_held3 (fun w' => w'.cell? ⟨w.heap.size, 0, none⟩ = some (.int .i64 vk) ∧ w'.cell? ⟨w.heap.size, 1, none⟩ = some (.int .i64 vn) ∧ w'.cell? ⟨w.heap.size, 2, none⟩ = some (.string vs))
          (first
            | with_reducible assumption
            | with_reducible exact v_drew ⟨e0, e1, e2⟩
            | with_reducible exact ⟨m0, m1, m2⟩
            | with_reducible exact ⟨d0, d1, d2⟩
            | with_reducible exact v_stepD (by with_reducible assumption)
            | with_reducible exact v_alloc (by with_reducible assumption)
            | with_reducible exact v_alloc ⟨d0, d1, d2⟩
            | (refine v_set3 (by with_reducible assumption) ?_; omega))
          (first
            | (go_at_call 16
               refine (HA _ _ _ (by first | with_reducible exact HUA.out | with_reducible exact isUs_below HUA.out (Joins.below_alloc1 _ _))).out.mono ?_
               rintro e wc ⟨rfl, hb⟩
               have hBc := Below.far2 HBA.out hb (by first | with_reducible exact Below.refl _ _ | with_reducible exact Joins.below_alloc1 _ _)
               obtain ⟨d0, d1, d2⟩ := v_kept (b := w.heap.size) (k := vk) (n := vn) (s := vs) ⟨e0, e1, e2⟩ hBc
               have HBC := Lib.hid hBc
               have hwc : wr.heap.size ≤ wc.heap.size := hBc.size
               first
                 | (have hgc := Vb.kept HGOT.out hb rfl
                    obtain ⟨g0, g1, g2⟩ := Vb.c hgc
                    have f0 := unfrozen_at hgc 0
                    have f1 := unfrozen_at hgc 1
                    have f2 := unfrozen_at hgc 2
                    have HGC := Lib.hid hgc
                    clear hgc)
                 | (have hgc : Vb wc wa.heap.size (0, 0, ⟨#[]⟩) := kept_at (heap_alloc_new wa _) hb
                    obtain ⟨g0, g1, g2⟩ := Vb.c hgc
                    have f0 := unfrozen_at hgc 0
                    have f1 := unfrozen_at hgc 1
                    have f2 := unfrozen_at hgc 2
                    have HGC := Lib.hid hgc
                    clear hgc)
                 | skip
               clear hb hBc)
            | (refine step_app rfl (.tmp 45) (.tmp 46) rfl _ rfl b off i cap rfl us ?_ hp hl ?_
               · exact isUs_below (isUs_below HU.out HBEL.out) (by first | with_reducible exact (Joins.below_alloc1 wr _).drew | with_reducible exact (Joins.below_alloc2 wr _ _).drew)
               intro g c' wa hua hba
               have hBa := Below.next (w := wr) (by first | with_reducible exact (Joins.below_alloc1 wr _).drew | with_reducible exact (Joins.below_alloc2 wr _ _).drew) hba
               obtain ⟨m0, m1, m2⟩ := v_kept (b := w.heap.size) (k := vk) (n := vn) (s := vs) ⟨e0, e1, e2⟩ hBa
               have HBA := Lib.hid hBa
               have hwa : wr.heap.size ≤ wa.heap.size := hBa.size
               have HUA := Lib.hid hua
               first
                 | (have HGOT : Hid (Vb wa wr.heap.size (0, 0, ⟨#[]⟩)) := Lib.hid (kept_by hba (old_at (heap_alloc_new wr (.cells #[.int .i64 0, .int .i64 0, .string ⟨#[]⟩] 23)))))
                 | (have HGOT : Hid (Vb wa (wr.heap.size + 1) (0, 0, ⟨#[]⟩)) := Lib.hid (kept_by hba (new_at (W := wr.alloc (.cells #[] 25)) (o := .cells #[.int .i64 0, .int .i64 0, .string ⟨#[]⟩] 23) (size_alloc1 _ _))))
                 | skip
               clear hba hua hBa))
        all_goals (
          go_wp2_with fail
          go_meet
          case rel =>
            first
              | exact ⟨_, rfl, HGC.out.set _ _ _, by omega, below_set3 HBC.out (by omega) _ _ _⟩
              | exact ⟨_, rfl, heap_alloc_new _ _, hwc, HBC.out.alloc HBC.out.size _⟩)
      case rest =>
        obtain ⟨g, rfl, hgx, hgw, hbx⟩ := hcut
        have h4 : Vb wc g (rk, rn, rs) ∧ Vb wc wy.heap.size (rk, rn, rs) ∧ Vb wc w.heap.size (vk, vn, vs) ∧ Below w.heap.size w wc := ⟨hgx, HWB.out.kept hbx rfl, HVB.out.kept hbx rfl, Below.next HBEL.out hbx⟩
        obtain ⟨a0, a1, a2⟩ := Vb.c h4.1
        obtain ⟨b0, b1, b2⟩ := Vb.c h4.2.1
        obtain ⟨c0, c1, c2⟩ := Vb.c h4.2.2.1
        have H4 := Lib.hid h4
        have s1 : (0 : Int) ≤ (k : Int) := by omega
        have s2 : (k : Int) ≤ (cap : Int) := by omega
        have s3 : (k : Int) ≤ (i : Int) := by omega
        have s4 : (i : Int) ≤ (cap : Int) := by omega
        clear h4 hgx hbx HVB HWB HBEL H3 e0 e1 e2 HA
        by_cases hck : cap = k
        · have hck2 : k = cap := hck.symm
          clear hck
          subst hck2
          have hik : k = i := by omega
          subst hik
          simp only [Nat.sub_self] at HA2
          go_wp2_with fail
          go_region_held3 (fun w' => w'.cell? ⟨g, 0, none⟩ = some (.int .i64 rk) ∧ w'.cell? ⟨g, 1, none⟩ = some (.int .i64 rn) ∧ w'.cell? ⟨g, 2, none⟩ = some (.string rs) ∧ w'.cell? ⟨wy.heap.size, 0, none⟩ = some (.int .i64 rk) ∧ w'.cell? ⟨wy.heap.size, 1, none⟩ = some (.int .i64 rn) ∧ w'.cell? ⟨wy.heap.size, 2, none⟩ = some (.string rs) ∧ w'.cell? ⟨w.heap.size, 0, none⟩ = some (.int .i64 vk) ∧ w'.cell? ⟨w.heap.size, 1, none⟩ = some (.int .i64 vn) ∧ w'.cell? ⟨w.heap.size, 2, none⟩ = some (.string vs))
            (first | exact ⟨a0, a1, a2, b0, b1, b2, c0, c1, c2⟩)
            (first
                | (go_at_call_of 16 vs
                   first
                     | refine (HA1 _ _ _ (isUs_take (isUs_below HU.out H4.out.2.2.2.drew) k hk)).out.mono ?_
                     | refine (HA1 _ _ _ (isUs_take (isUs_below HU.out H4.out.2.2.2) k hk)).out.mono ?_
                   rintro e wx ⟨rfl, hb⟩
                   have h4 := four_next H4.out hb rfl rfl rfl rfl
                   obtain ⟨a0, a1, a2⟩ := Vb.c h4.1
                   obtain ⟨b0, b1, b2⟩ := Vb.c h4.2.1
                   obtain ⟨c0, c1, c2⟩ := Vb.c h4.2.2.1
                   have H4 := Lib.hid h4
                   clear hb h4)
                | (go_at_call_of 16 ts
                   refine (HA2 _ _ _ ⟨by simp [hsz], fun h0 => absurd h0 (Nat.lt_irrefl 0)⟩).out.mono ?_
                   rintro e wx ⟨rfl, hb⟩
                   have h4 := four_next H4.out hb rfl rfl rfl rfl
                   obtain ⟨a0, a1, a2⟩ := Vb.c h4.1
                   obtain ⟨b0, b1, b2⟩ := Vb.c h4.2.1
                   obtain ⟨c0, c1, c2⟩ := Vb.c h4.2.2.1
                   have H4 := Lib.hid h4
                   clear hb h4))
          go_wp2
          go_ret
          exact ⟨rfl, H4.out.2.2.2⟩
        · go_wp2_with fail
          go_region_held3 (fun w' => w'.cell? ⟨g, 0, none⟩ = some (.int .i64 rk) ∧ w'.cell? ⟨g, 1, none⟩ = some (.int .i64 rn) ∧ w'.cell? ⟨g, 2, none⟩ = some (.string rs) ∧ w'.cell? ⟨wy.heap.size, 0, none⟩ = some (.int .i64 rk) ∧ w'.cell? ⟨wy.heap.size, 1, none⟩ = some (.int .i64 rn) ∧ w'.cell? ⟨wy.heap.size, 2, none⟩ = some (.string rs) ∧ w'.cell? ⟨w.heap.size, 0, none⟩ = some (.int .i64 vk) ∧ w'.cell? ⟨w.heap.size, 1, none⟩ = some (.int .i64 vn) ∧ w'.cell? ⟨w.heap.size, 2, none⟩ = some (.string vs))
            (first | exact ⟨a0, a1, a2, b0, b1, b2, c0, c1, c2⟩)
            (first
                | (go_at_call_of 16 vs
                   first
                     | refine (HA1 _ _ _ (isUs_take (isUs_below HU.out H4.out.2.2.2.drew) k hk)).out.mono ?_
                     | refine (HA1 _ _ _ (isUs_take (isUs_below HU.out H4.out.2.2.2) k hk)).out.mono ?_
                   rintro e wx ⟨rfl, hb⟩
                   have h4 := four_next H4.out hb rfl rfl rfl rfl
                   obtain ⟨a0, a1, a2⟩ := Vb.c h4.1
                   obtain ⟨b0, b1, b2⟩ := Vb.c h4.2.1
                   obtain ⟨c0, c1, c2⟩ := Vb.c h4.2.2.1
                   have H4 := Lib.hid h4
                   clear hb h4)
                | (go_at_call_of 16 ts
                   refine (HA2 _ _ _ (isUs_drop (isUs_below HU.out H4.out.2.2.2) k hk)).out.mono ?_
                   rintro e wx ⟨rfl, hb⟩
                   have h4 := four_next H4.out hb rfl rfl rfl rfl
                   obtain ⟨a0, a1, a2⟩ := Vb.c h4.1
                   obtain ⟨b0, b1, b2⟩ := Vb.c h4.2.1
                   obtain ⟨c0, c1, c2⟩ := Vb.c h4.2.2.1
                   have H4 := Lib.hid h4
                   clear hb h4))
          go_wp2
          go_ret
          exact ⟨rfl, H4.out.2.2.2⟩
end Go.Proofs.Ytimilojognidlaa
