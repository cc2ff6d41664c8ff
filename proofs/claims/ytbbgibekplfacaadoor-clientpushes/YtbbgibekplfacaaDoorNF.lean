/- awake of stage 17. -/
import Derived.Test.YtbbgibekplfacaaDoorNC
import Derived.Test.YtbbgibekplfacaaDoorNE
namespace Go.Proofs.YtbbgibekplfacaaDoor
open Go Go.RowKit
set_option maxRecDepth 20000
def uAdd (n : Int) : Up := (⟨#[97]⟩, 3, n, ⟨#[]⟩)
set_option maxHeartbeats 400000 in
theorem add_any (n : Int) (w : World) : Calls Tryd.prog 33 #[.int .i64 n] w fun e w' => e = .returned (.agg #[.string ⟨#[97]⟩, .int .i64 3, .int .i64 n, .string ⟨#[]⟩]) ∧ Below w.heap.size w w' := by
  go_enter Tryd.func33, Tryd.ntmps33
  go_wp2
  refine bodyPost_ret (v := .agg #[.string ⟨#[97]⟩, .int .i64 3, .int .i64 n, .string ⟨#[]⟩]) (by simp [results, Tryd.results33, go_sem]) rfl ⟨rfl, ?_⟩
  exact Joins.below_alloc1 _ _
def q0 : Cs := ⟨1, 100, 1, 9, [], 0, [], []⟩
def q1 : Cs := ⟨1, 100, 1, 9, [], 0, [], [uAdd 1]⟩
def q2 : Cs := ⟨1, 100, 1, 9, [[uAdd 1]], 0, [], []⟩
def q3 : Cs := ⟨1, 100, 1, 9, [[uAdd 1]], 0, [], [uAdd 3]⟩
def q4 : Cs := ⟨1, 100, 1, 9, [[uAdd 1]], 0, [(2, 1, [uAdd 5])], [uAdd 3]⟩
def q5 : Cs := ⟨1, 100, 1, 9, [[uAdd 1]], 1, [(2, 1, [uAdd 5]), (1, 1, [uAdd 1])], [uAdd 3]⟩
theorem q_new : (⟨1, 100, mostOf 1, lastOf 9, [], 0, [], []⟩ : Cs) = q0 := by kernel_rfl
theorem q_upd : q0.updE (uAdd 1) = 0 ∧ q0.upd (uAdd 1) = q1 := ⟨by kernel_rfl, by kernel_rfl⟩
theorem q_push : q1.pushE = 0 ∧ q1.push = q2 := ⟨by kernel_rfl, by kernel_rfl⟩
theorem q_none : q2.pushE = 11 := by kernel_rfl
theorem q_upd3 : q2.updE (uAdd 3) = 0 ∧ q2.upd (uAdd 3) = q3 := ⟨by kernel_rfl, by kernel_rfl⟩
theorem q_full : q3.pushE = 7 := by kernel_rfl
theorem q_take : q3.takeE (2, 1, [uAdd 5]) = 0 ∧ q3.take (2, 1, [uAdd 5]) = q4 := ⟨by kernel_rfl, by kernel_rfl⟩
theorem q_own : q4.takeE (1, 1, [uAdd 1]) = 0 ∧ q4.take (1, 1, [uAdd 1]) = q5 := ⟨by kernel_rfl, by kernel_rfl⟩
theorem q_again : q5.takeE (1, 1, [uAdd 1]) = 10 := by kernel_rfl
theorem q_res : q5.resume = q2 := rfl
theorem q_read : Y.stF q4.seen (Y.ky ⟨#[97]⟩) = (1, 9, ⟨#[]⟩) := by
  show Y.stF [uAdd 5, uAdd 1, uAdd 3] (Y.ky ⟨#[97]⟩) = (1, 9, ⟨#[]⟩)
  kernel_rfl
theorem q_keys : Y.KeyL (Y.stF q2.seen) [[97]] := by
  show Y.KeyL (Y.stF [uAdd 1]) [[97]]
  refine ⟨by simp, fun k => ⟨fun hk => ?_, fun hk => ?_⟩⟩
  · obtain rfl : k = [97] := by simpa using hk
    decide
  · obtain ⟨u, hu, e⟩ := List.mem_map.1 (Y.has_key hk)
    obtain rfl := List.mem_singleton.1 hu
    rw [← e]
    exact List.mem_singleton.2 rfl
theorem sh_add (n : Int) : (uAdd n).1.size ≤ 1000 ∧ Y.Sh (uAdd n).2.2.2 := ⟨by show (1 : Nat) ≤ 1000; omega, by show (0 : Nat) ≤ 100000; omega⟩
theorem sl_adds (us : List Up) (hl : us.length ≤ 20) (h : ∀ u ∈ us, ∃ n, u = uAdd n) : Sl us := ⟨hl, fun u hu => by
  obtain ⟨n, rfl⟩ := h u hu
  exact sh_add n⟩
theorem sl_one (n : Int) : Sl [uAdd n] := sl_adds _ (by simp) fun u hu => ⟨n, List.mem_singleton.1 hu⟩
theorem q_short : q4.seen.length ≤ 1000 ∧ ∀ u ∈ q4.seen, u.1.size ≤ 1000 ∧ Y.Sh u.2.2.2 := by
  show [uAdd 5, uAdd 1, uAdd 3].length ≤ 1000 ∧ ∀ u ∈ [uAdd 5, uAdd 1, uAdd 3], u.1.size ≤ 1000 ∧ Y.Sh u.2.2.2
  refine ⟨by simp, fun u hu => ?_⟩
  have h : u = uAdd 5 ∨ u = uAdd 1 ∨ u = uAdd 3 := by simpa using hu
  rcases h with rfl | rfl | rfl <;> exact sh_add _
theorem q_short2 : q2.seen.length ≤ 1000 ∧ ∀ u ∈ q2.seen, u.1.size ≤ 1000 ∧ Y.Sh u.2.2.2 := by
  show [uAdd 1].length ≤ 1000 ∧ ∀ u ∈ [uAdd 1], u.1.size ≤ 1000 ∧ Y.Sh u.2.2.2
  refine ⟨by simp, fun u hu => ?_⟩
  rw [List.mem_singleton.1 hu]
  exact sh_add _
/-- The program's client alone. -/
structure Aw (W w : World) (cb : Nat) (P : Nat → Prop) (s : Cs) : Prop where
  bel : Below W.heap.size W w
  pk : Pk W.heap.size w cb P s
/-- A round in a block of the law's own. -/
structure Hr (w : World) (P : Nat → Prop) (g : Nat) (r : Rn) : Prop where
  rb : Rb w g r.o r.n r.a r.len r.cap
  rg : ¬ P g
  ru : Ru w r
  ro : 0 < r.len → ∀ g off, r.a = some ⟨g, off, none⟩ → ¬ P g
/-- A value in a block of the law's own. -/
structure Hv (w : World) (P : Nat → Prop) (g : Nat) (v : Y.Vl) : Prop where
  vb : Y.Vb w g v
  vg : ¬ P g
section
variable {W w w' : World} {cb g : Nat} {P P' : Nat → Prop} {s s' : Cs} {r : Rn} {v : Y.Vl}
theorem Aw.step (h : Aw W w cb P s) (hp : PkW W.heap.size w w' cb P P' s') : Aw W w' cb P' s' := ⟨hp.lv.below h.bel (fun k hk => (h.pk.foot k hk).1) h.bel.size, hp.pk⟩
theorem Aw.next (h : Aw W w cb P s) (hb : Below w.heap.size w w') : Aw W w' cb P s := ⟨Below.next h.bel hb, h.pk.next hb⟩
theorem pkW_keep (hp : PkW W.heap.size w w' cb P P' s') {g : Nat} (hl : g < w.heap.size) (hg : ¬ P g) : w'.heap[g]? = w.heap[g]? ∧ ¬ P' g := ⟨hp.lv.block g hl hg, fun h => by
  rcases hp.new g h with h | h
  · exact hg h
  · omega⟩
theorem Hr.step (h : Hr w P g r) (hp : PkW W.heap.size w w' cb P P' s') : Hr w' P' g r :=
  ⟨(pkW_keep hp h.rb.lt h.rg).1.trans h.rb, (pkW_keep hp h.rb.lt h.rg).2, ⟨isUs_keep h.ru.1 fun h0 g off e => (pkW_keep hp (Rn.us_in h.ru h0 e) (h.ro h0 g off e)).1, h.ru.2⟩, fun h0 g off e => (pkW_keep hp (Rn.us_in h.ru h0 e) (h.ro h0 g off e)).2⟩
theorem Hr.next (h : Hr w P g r) (hb : Below w.heap.size w w') : Hr w' P g r := ⟨h.rb.next hb, h.rg, h.ru.below hb, h.ro⟩
theorem Hv.step (h : Hv w P g v) (hp : PkW W.heap.size w w' cb P P' s') : Hv w' P' g v := by
  have hl : g < w.heap.size := h.vb.lt
  exact ⟨(pkW_keep hp hl h.vg).1.trans h.vb, (pkW_keep hp hl h.vg).2⟩
theorem Hv.next (h : Hv w P g v) (hb : Below w.heap.size w w') : Hv w' P g v := ⟨h.vb.kept hb rfl, h.vg⟩
end
set_option maxHeartbeats 8000000 in
theorem awake_any (w : World) (hwd : X.Wd w) : Calls Tryd.prog 10 #[] w fun e w' => e = .returned (.bool true) ∧ Below w.heap.size w w' := by
  have HWD := Lib.hid hwd
  clear hwd
  go_enter Tryd.func10, Tryd.ntmps10
  go_wp2_with fail
  refine (jnew_any 1 9 w.heap.size w (Nat.le_refl _)).mono ?_
  rintro e w1 ⟨rfl, hj, hb⟩
  have HJ := Lib.hid hj
  have HB1 := Lib.hid hb
  clear hj hb
  go_wp2_with fail
  refine (cnew_any 1 100 1 (lastOf 9) [] w.heap.size w.heap.size _ w1 HB1.out.size HJ.out).mono ?_
  rintro e w2 ⟨rfl, hb, hp⟩
  rw [q_new] at hp
  have h2 : Aw w w2 w1.heap.size _ q0 := ⟨Below.next HB1.out hb, hp⟩
  generalize Pf w1.heap.size (.slice none 0 0) (fun _ => False) (Jf w.heap.size (.slice none 0 0) fun _ => False) (.slice none 0 0) = P2 at h2
  have H2 := Lib.hid h2
  generalize w1.heap.size = cb at H2 ⊢
  clear hb hp h2 HJ HB1
  go_wp2_with fail
  refine (add_any 1 w2).mono ?_
  rintro e w3 ⟨rfl, hb⟩
  have H3 := Lib.hid (H2.out.next hb)
  clear hb H2
  go_wp2_with fail
  refine (cupd_any (s := q0) (uAdd 1) (by decide) Sl.nil.sm (sl_one 1).sm w3 (HWD.out.below H3.out.bel) H3.out.pk).mono ?_
  rintro e w4 ⟨rfl, P4, hp⟩
  rw [q_upd.1]
  rw [q_upd.2] at hp
  have H4 := Lib.hid (H3.out.step hp)
  clear hp H3
  go_wp2_with fail
  refine (cpush_any (s := q1) (by decide) (by decide) (sl_one 1).sm w4 H4.out.pk).mono ?_
  rintro e w5 ⟨r, P5, rfl, hp, hru, hof, hpr⟩
  rw [q_push.1]
  rw [q_push.2] at hp
  have ho := hpr.o'
  have hn := hpr.n'
  have hus := hpr.us'
  rw [if_pos q_push.1] at ho hn hus
  have hsz := hru.1.size
  obtain ⟨ro, rn, ra, rl, rc, rus⟩ := r
  simp only at ho hn hus hsz
  subst ho hn hus
  obtain rfl : 1 = rl := hsz
  have hA := Joins.below_alloc1 w5 (.cells #[.int .i64 1, .int .i64 1, .slice ra 1 rc] 35)
  have H5 := Lib.hid ((H4.out.step hp).next hA)
  have HR5 : Hid (Hr (w5.alloc (.cells #[.int .i64 1, .int .i64 1, .slice ra 1 rc] 35)) P5 w5.heap.size ⟨1, 1, ra, 1, rc, [uAdd 1]⟩) := Lib.hid ⟨Rb.new w5 1 1 ra 1 rc, fun e => by have := (hp.pk.foot _ e).2; omega, hru.below hA, fun _ g off e => (hof g off e).2⟩
  simp only [rv]
  clear hp hru hof hpr hA H4
  go_wp2_with fail
  refine (cpush_any (s := q2) (by decide) (by decide) Sl.nil.sm _ H5.out.pk).mono ?_
  rintro e w6 ⟨r6, P6, rfl, hp, hru, hof, hpr⟩
  rw [q_none]
  rw [push_no (by rw [q_none]; decide)] at hp
  have h6 := H5.out.step hp
  have hR6 := HR5.out.step hp
  obtain ⟨o6, n6, a6, l6, c6, u6⟩ := r6
  have hA := Joins.below_alloc1 w6 (.cells #[.int .i64 o6, .int .i64 n6, .slice a6 l6 c6] 35)
  have H6 := Lib.hid (h6.next hA)
  have HR6 := Lib.hid (hR6.next hA)
  simp only [rv]
  clear hp hru hof hpr h6 hR6 hA H5 HR5
  go_wp2_with fail
  generalize w5.heap.size = gr at HR6 ⊢
  generalize w6.alloc (.cells #[.int .i64 o6, .int .i64 n6, .slice a6 l6 c6] 35) = w7 at H6 HR6 ⊢
  refine (add_any 3 w7).mono ?_
  rintro e w8 ⟨rfl, hb⟩
  have H8 := Lib.hid (H6.out.next hb)
  have HR8 := Lib.hid (HR6.out.next hb)
  clear hb H6 HR6
  go_wp2_with fail
  refine (cupd_any (s := q2) (uAdd 3) (by decide) Sl.nil.sm (sl_one 3).sm w8 (HWD.out.below H8.out.bel) H8.out.pk).mono ?_
  rintro e w9 ⟨rfl, P9, hp⟩
  rw [q_upd3.1]
  rw [q_upd3.2] at hp
  have H9 := Lib.hid (H8.out.step hp)
  have HR9 := Lib.hid (HR8.out.step hp)
  clear hp H8 HR8
  go_wp2_with fail
  refine (cpush_any (s := q3) (by decide) (by decide) (sl_one 3).sm w9 H9.out.pk).mono ?_
  rintro e w10 ⟨r10, P10, rfl, hp, hru, hof, hpr⟩
  rw [q_full]
  rw [push_no (by rw [q_full]; decide)] at hp
  have h10 := H9.out.step hp
  have hR10 := HR9.out.step hp
  obtain ⟨o10, n10, a10, l10, c10, u10⟩ := r10
  have hA := Joins.below_alloc1 w10 (.cells #[.int .i64 o10, .int .i64 n10, .slice a10 l10 c10] 35)
  have H10 := Lib.hid (h10.next hA)
  have HR10 := Lib.hid (hR10.next hA)
  simp only [rv]
  clear hp hru hof hpr h10 hR10 hA H9 HR9
  go_wp2_with fail
  generalize w10.alloc (.cells #[.int .i64 o10, .int .i64 n10, .slice a10 l10 c10] 35) = w11 at H10 HR10 ⊢
  refine (add_any 5 w11).mono ?_
  rintro e w12 ⟨rfl, hb⟩
  have H12 := Lib.hid (H10.out.next hb)
  have HR12 := Lib.hid (HR10.out.next hb)
  clear hb H10 HR10
  go_wp2_with fail
  have hA := Joins.below_alloc1 w12 (.cells #[.string ⟨#[97]⟩, .int .i64 3, .int .i64 5, .string ⟨#[]⟩] 32)
  have HU := Lib.hid (isUs_one w12 (uAdd 5))
  have H13 := Lib.hid (H12.out.next hA)
  have HR13 := Lib.hid (HR12.out.next hA)
  clear hA
  refine (ctake_any (s := q3) (by decide) ⟨2, 1, some ⟨w12.heap.size, 0, none⟩, 1, 1, [uAdd 5]⟩ (sl_one 5).sm _ ⟨HU.out, Nat.le_refl _, fun e => by cases e⟩ H13.out.pk).mono ?_
  rintro e w14 ⟨rfl, P14, hp⟩
  rw [show kR ⟨2, 1, some ⟨w12.heap.size, 0, none⟩, 1, 1, [uAdd 5]⟩ = (2, 1, [uAdd 5]) from rfl, q_take.1]
  rw [show kR ⟨2, 1, some ⟨w12.heap.size, 0, none⟩, 1, 1, [uAdd 5]⟩ = (2, 1, [uAdd 5]) from rfl, q_take.2] at hp
  have H14 := Lib.hid (H13.out.step hp)
  have HR14 := Lib.hid (HR13.out.step hp)
  clear hp HU H12 H13 HR12 HR13
  go_wp2_with fail
  refine (cread_any (s := q4) ⟨#[97]⟩ (by decide) (by decide) q_short w14 H14.out.pk).mono ?_
  rintro e w15 ⟨rfl, hb⟩
  rw [q_read]
  have hV : Y.Vb (w15.alloc (.cells #[.int .i64 1, .int .i64 9, .string ⟨#[]⟩] 49)) w15.heap.size (1, 9, ⟨#[]⟩) := heap_alloc_new _ _
  have hA := Joins.below_alloc1 w15 (.cells #[.int .i64 1, .int .i64 9, .string ⟨#[]⟩] 49)
  have h15 := H14.out.next hb
  have HV := Lib.hid (Hv.mk hV fun e => by have := (h15.pk.foot _ e).2; omega)
  have H15 := Lib.hid (h15.next hA)
  have HR15 := Lib.hid ((HR14.out.next hb).next hA)
  simp only [Y.vv_eq]
  clear hb hV hA h15 H14 HR14
  have c0 : (w15.alloc (.cells #[.int .i64 1, .int .i64 9, .string ⟨#[]⟩] 49)).cell? ⟨gr, 0, none⟩ = some (.int .i64 1) := HR15.out.rb.c0
  have c1 : (w15.alloc (.cells #[.int .i64 1, .int .i64 9, .string ⟨#[]⟩] 49)).cell? ⟨gr, 1, none⟩ = some (.int .i64 1) := HR15.out.rb.c1
  have c2 : (w15.alloc (.cells #[.int .i64 1, .int .i64 9, .string ⟨#[]⟩] 49)).cell? ⟨gr, 2, none⟩ = some (.slice ra 1 rc) := HR15.out.rb.c2
  go_wp2_with fail
  clear c0 c1 c2
  generalize w15.heap.size = gv at HV ⊢
  generalize w15.alloc (.cells #[.int .i64 1, .int .i64 9, .string ⟨#[]⟩] 49) = w16 at H15 HR15 HV ⊢
  refine (ctake_any (s := q4) (by decide) ⟨1, 1, ra, 1, rc, [uAdd 1]⟩ (sl_one 1).sm w16 HR15.out.ru H15.out.pk).mono ?_
  rintro e w17 ⟨rfl, P17, hp⟩
  rw [show kR ⟨1, 1, ra, 1, rc, [uAdd 1]⟩ = (1, 1, [uAdd 1]) from rfl, q_own.1]
  rw [show kR ⟨1, 1, ra, 1, rc, [uAdd 1]⟩ = (1, 1, [uAdd 1]) from rfl, q_own.2] at hp
  have H17 := Lib.hid (H15.out.step hp)
  have HR17 := Lib.hid (HR15.out.step hp)
  have HV17 := Lib.hid (HV.out.step hp)
  clear hp H15 HR15 HV
  have c0 : w17.cell? ⟨gr, 0, none⟩ = some (.int .i64 1) := HR17.out.rb.c0
  have c1 : w17.cell? ⟨gr, 1, none⟩ = some (.int .i64 1) := HR17.out.rb.c1
  have c2 : w17.cell? ⟨gr, 2, none⟩ = some (.slice ra 1 rc) := HR17.out.rb.c2
  go_wp2_with fail
  clear c0 c1 c2
  refine (ctake_any (s := q5) (by decide) ⟨1, 1, ra, 1, rc, [uAdd 1]⟩ (sl_one 1).sm w17 HR17.out.ru H17.out.pk).mono ?_
  rintro e w18 ⟨rfl, P18, hp⟩
  rw [show kR ⟨1, 1, ra, 1, rc, [uAdd 1]⟩ = (1, 1, [uAdd 1]) from rfl, q_again]
  have H18 := Lib.hid (H17.out.step hp)
  have HV18 := Lib.hid (HV17.out.step hp)
  rw [show kR ⟨1, 1, ra, 1, rc, [uAdd 1]⟩ = (1, 1, [uAdd 1]) from rfl, show q5.take (1, 1, [uAdd 1]) = q5 by unfold Cs.take; rw [if_neg (by rw [q_again]; decide)]] at H18
  clear hp H17 HR17 HV17
  go_wp2_with fail
  refine (cresume_any (s := q5) w18 H18.out.pk).mono ?_
  rintro e w19 ⟨rfl, P19, hp⟩
  have H19 := Lib.hid (H18.out.step hp)
  have HV19 := Lib.hid (HV18.out.step hp)
  rw [q_res] at H19
  clear hp H18 HV18
  have c0 : w19.cell? ⟨gv, 0, none⟩ = some (.int .i64 1) := by have h := HV19.out.vb; unfold Y.Vb at h; simp [World.cell?, h]
  have c1 : w19.cell? ⟨gv, 1, none⟩ = some (.int .i64 9) := by have h := HV19.out.vb; unfold Y.Vb at h; simp [World.cell?, h]
  have c2 : w19.cell? ⟨gv, 2, none⟩ = some (.string ⟨#[]⟩) := by have h := HV19.out.vb; unfold Y.Vb at h; simp [World.cell?, h]
  go_wp2_with fail
  clear c0 c1 c2 HV19
  refine (clen_any (s := q2) [[97]] q_keys (by decide) (by decide) q_short2 w19 H19.out.pk).mono ?_
  rintro e w20 ⟨rfl, hb⟩
  have H20 := Lib.hid (H19.out.next hb)
  clear hb H19
  go_wp2_with fail
  refine (cconf_any (s := q2) (by decide) (by decide) w20 H20.out.pk).mono ?_
  rintro e w21 ⟨rfl, hb⟩
  rw [show (decide (q2.k = q2.uss.length) && decide (q2.op.length = 0)) = false from rfl]
  have H21 := Lib.hid (H20.out.next hb)
  clear hb H20
  go_wp2_with fail
  refine (cpend_any (s := q2) (by decide) (by decide) w21 H21.out.pk).mono ?_
  rintro e w22 ⟨g22, xs22, rfl, -, -, -, -, hb⟩
  rw [show q2.uss.length - q2.k = 1 from rfl]
  have H22 := Lib.hid (H21.out.next hb)
  clear hb H21
  go_wp2_with fail
  refine (cknown_any (s := q2) (by decide) (fun r h => by cases h) w22 H22.out.pk).mono ?_
  rintro e w23 ⟨g23, xs23, rfl, -, -, -, -, hb⟩
  rw [show q2.kn.length = 0 from rfl]
  have H23 := Lib.hid (H22.out.next hb)
  clear hb H22
  go_wp2_with fail
  refine (copen_any (s := q2) Sl.nil.sm w23 H23.out.pk).mono ?_
  rintro e w24 ⟨rfl, -, hb⟩
  rw [show q2.op.length = 0 from rfl]
  have H24 := Lib.hid (H23.out.next hb)
  clear hb H23
  go_wp2_with fail
  refine bodyPost_ret (v := .bool true) (by simp [results, Tryd.results10, go_sem]) rfl ⟨rfl, ?_⟩
  exact H24.out.bel
end Go.Proofs.YtbbgibekplfacaaDoor
