/- A call on both (do), when the two stand apart; the document's journal is empty. -/
import Derived.Test.YtbbgibekplfacaaDoorRH
import Derived.Test.YtbbgibekplfacaaDoorNG
namespace Go.Proofs.YtbbgibekplfacaaDoor
open Go Go.RowKit
set_option maxRecDepth 20000
/-- Two plain states. -/
structure Kd (W w : World) (g cb db : Nat) (P D : Nat → Prop) (n : Nat) (s sd : Cs) : Prop where
  ka : Ka W w g cb db P D s sd
  nd : ¬ D g
  ok : s.Ok n
  okd : sd.Ok n
  us : sd.uss = []
section
variable {W w w' : World} {g cb db : Nat} {P D P' D' : Nat → Prop} {n : Nat} {s sd s' sd' : Cs}
theorem Kd.start (h : Kl W w g cb db P D n s) (hu : s.uss = []) (hl : W.heap.size ≤ g) : Kd W w g cb db P D n s s := ⟨h.alone, fun e => h.kf ⟨hl, .inr e⟩, h.kq.ok, h.kq.ok, hu⟩
theorem Kd.next (h : Kd W w g cb db P D n s sd) (hb : Below w.heap.size w w') : Kd W w' g cb db P D n s sd := ⟨h.ka.next hb, h.nd, h.ok, h.okd, h.us⟩
theorem Kd.more (h : Kd W w g cb db P D n s sd) : Kd W w g cb db P D (n + 1) s sd := ⟨h.ka, h.nd, h.ok.more, h.okd.more, h.us⟩
theorem Kd.step (h : Kd W w g cb db P D n s sd) (hp : PkW W.heap.size w w' cb P P' s') (hok : s'.Ok (n + 1)) : Kd W w' g cb db P' D (n + 1) s' sd := ⟨h.ka.step hp, h.nd, hok, h.okd.more, h.us⟩
theorem Kd.stepD (h : Kd W w g cb db P D n s sd) (hd : DkW W.heap.size w w' db D D' sd') (hok : sd'.Ok n) (hu : sd'.uss = []) : Kd W w' g cb db P D' n s sd' :=
  ⟨⟨hd.lv.below h.ka.bel (fun k hk => hk.1) h.ka.bel.size, h.ka.pk.other hd.lv fun x hx hy => h.ka.ap x hx hy.2, hd.dk, fun x hx hy => by
    rcases hd.new x hy with hz | hz
    · exact h.ka.ap x hx hz
    · have := (h.ka.pk.foot x hx).2
      omega, h.ka.kb.same (hd.lv.block g h.ka.kb.lt fun e => h.nd e.2), h.ka.kf⟩, fun e => by
    rcases hd.new g e with hz | hz
    · exact h.nd hz
    · have := h.ka.kb.lt
      omega, h.ok, hok, hu⟩
theorem Cs.take_uss (s : Cs) (r : Cr) : (s.take r).uss = s.uss := by
  unfold Cs.take
  split <;> rfl
theorem kd_boxes (h : Kd W w g cb db P D n s sd) (x : Nat) (hx : w.heap.size ≤ x) : ¬ P x ∧ ¬ D x := ⟨fun e => by have := (h.ka.pk.foot x e).2; omega, fun e => by have := h.ka.dk.foot x e; omega⟩
end
set_option maxHeartbeats 8000000 in
theorem dw_3 {W : World} {g cb db : Nat} {P D : Nat → Prop} {n : Nat} {s sd : Cs} (kd : Int) (uk : ByteArray) (ux un : Int) (ut : ByteArray) (ro rn : Int) (ra : Option Addr) (rl rc : Nat) (rus : List Up) (hk : kd = 3) (w : World) (hn : n ≤ 200) (hok : okA (kd, (uk, ux, un, ut), ⟨ro, rn, ra, rl, rc, rus⟩)) (hru : Ru w ⟨ro, rn, ra, rl, rc, rus⟩) (hlow : 0 < rl → ∀ g off, ra = some ⟨g, off, none⟩ → g < W.heap.size) (h : Kd W w g cb db P D n s sd) :
    Calls Tryd.prog 12 #[.agg #[.pointer (some ⟨cb, 0, none⟩), .pointer (some ⟨db, 0, none⟩)], .agg #[.int .i64 kd, .string uk, .int .i64 ux, .int .i64 un, .string ut, .int .i64 ro, .int .i64 rn, .slice ra rl rc]] w fun e w' => (∃ b, e = .returned (.bool b)) ∧ ∃ P' D' s' sd', Kd W w' g cb db P' D' (n + 1) s' sd' := by
  have hA := Joins.below_alloc2 w (.cells #[.pointer (some ⟨cb, 0, none⟩), .pointer (some ⟨db, 0, none⟩)] 27) (.cells #[.int .i64 kd, .string uk, .int .i64 ux, .int .i64 un, .string ut, .int .i64 ro, .int .i64 rn, .slice ra rl rc] 37)
  have HKA := Lib.hid (h.next hA)
  have hbo : Bo w ((w.alloc (.cells #[.pointer (some ⟨cb, 0, none⟩), .pointer (some ⟨db, 0, none⟩)] 27)).alloc (.cells #[.int .i64 kd, .string uk, .int .i64 ux, .int .i64 un, .string ut, .int .i64 ro, .int .i64 rn, .slice ra rl rc] 37)) cb db kd uk ux un ut ro rn ra rl rc := ⟨(show Kb (w.alloc (.cells #[.pointer (some ⟨cb, 0, none⟩), .pointer (some ⟨db, 0, none⟩)] 27)) w.heap.size cb db from heap_alloc_new w _).next (Joins.below_alloc1 _ _), by have := heap_alloc_new (w.alloc (.cells #[.pointer (some ⟨cb, 0, none⟩), .pointer (some ⟨db, 0, none⟩)] 27)) (.cells #[.int .i64 kd, .string uk, .int .i64 ux, .int .i64 un, .string ut, .int .i64 ro, .int .i64 rn, .slice ra rl rc] 37); rw [show (w.alloc (.cells #[.pointer (some ⟨cb, 0, none⟩), .pointer (some ⟨db, 0, none⟩)] 27)).heap.size = w.heap.size + 1 by simp] at this; exact this⟩
  have hBX : ∀ x, w.heap.size ≤ x → x < w.heap.size + 2 → ¬ P x ∧ ¬ D x := fun x hx _ => kd_boxes h x hx
  have HBX := Lib.hid hBX
  have a0 := hbo.a.c0
  have HBO := Lib.hid hbo
  have HRU := Lib.hid (hru.below hA)
  have HSL := Lib.hid (okA_sl hok)
  have HLOW := Lib.hid hlow
  have HO := Lib.hid h.ok
  have hlen := h.ok.len
  have hlend := h.okd.len
  have hl1 : sd.kn.length ≤ 1000 := by omega
  have hl2 : sd.uss.length ≤ 1000 := by omega
  have e1 : ((kd : Int) == 1) = false := beq_false_of_ne (by omega)
  have e2 : ((kd : Int) == 2) = false := beq_false_of_ne (by omega)
  have e3 : ((kd : Int) == 3) = true := beq_iff_eq.2 hk
  clear hA hbo hBX h hru hok hlow hk hlend
  go_enter Tryd.func12, Tryd.ntmps12
  go_upto_region 9 with fail
  generalize (w.alloc (.cells #[.pointer (some ⟨cb, 0, none⟩), .pointer (some ⟨db, 0, none⟩)] 27)).alloc (.cells #[.int .i64 kd, .string uk, .int .i64 ux, .int .i64 un, .string ut, .int .i64 ro, .int .i64 rn, .slice ra rl rc] 37) = wA at *
  clear a0
  have hs0 : (wA.cell? ⟨w.heap.size, 0, none⟩ = some (.pointer (some ⟨cb, 0, none⟩)) ∧ wA.cell? ⟨w.heap.size, 1, none⟩ = some (.pointer (some ⟨db, 0, none⟩))) ∧ wA.cell? ⟨w.heap.size + 1, 5, none⟩ = some (.int .i64 ro) ∧ wA.cell? ⟨w.heap.size + 1, 6, none⟩ = some (.int .i64 rn) ∧ wA.cell? ⟨w.heap.size + 1, 7, none⟩ = some (.slice ra rl rc) := ⟨⟨HBO.out.k.c0, HBO.out.k.c1⟩, HBO.out.a.rd⟩
  go_wp2_with fail
  refine wp_region_held_drew (S := fun w' => (w'.cell? ⟨w.heap.size, 0, none⟩ = some (.pointer (some ⟨cb, 0, none⟩)) ∧ w'.cell? ⟨w.heap.size, 1, none⟩ = some (.pointer (some ⟨db, 0, none⟩))) ∧ w'.cell? ⟨w.heap.size + 1, 5, none⟩ = some (.int .i64 ro) ∧ w'.cell? ⟨w.heap.size + 1, 6, none⟩ = some (.int .i64 rn) ∧ w'.cell? ⟨w.heap.size + 1, 7, none⟩ = some (.slice ra rl rc)) (by kernel_rfl) ?_ (fun hH => ?_)
  · exact hs0
  refine tkH 0 ?_ ?_ ?_
  rotate_left
  · intro w h; try dsimp only at h
    obtain ⟨⟨q0, q1⟩, q2, q3, q4⟩ := h; go_simp; all_goals with_reducible rfl
  try simp only [pt]
  refine tkH 1 ?_ ?_ ?_
  rotate_left
  · intro w h; try dsimp only at h
    obtain ⟨⟨q0, q1⟩, q2, q3, q4⟩ := h; go_simp; all_goals with_reducible rfl
  try simp only [pt]
  refine tkH 2 ?_ ?_ ?_
  rotate_left
  · intro w h; try dsimp only at h
    obtain ⟨⟨q0, q1⟩, q2, q3, q4⟩ := h; go_simp; all_goals with_reducible rfl
  try simp only [pt]
  refine tkH 3 ?_ ?_ ?_
  rotate_left
  · intro w h; try dsimp only at h
    obtain ⟨⟨q0, q1⟩, q2, q3, q4⟩ := h; go_simp; all_goals with_reducible rfl
  try simp only [pt]
  refine tkH 5 ?_ ?_ ?_
  rotate_left
  · intro w h; try dsimp only at h
    obtain ⟨⟨q0, q1⟩, q2, q3, q4⟩ := h; go_simp; all_goals with_reducible rfl
  try simp only [pt]
  refine tkH 6 ?_ ?_ ?_
  rotate_left
  · intro w h; try dsimp only at h
    obtain ⟨⟨q0, q1⟩, q2, q3, q4⟩ := h; go_simp; all_goals with_reducible rfl
  try simp only [pt]
  refine tkH 7 ?_ ?_ ?_
  rotate_left
  · intro w h; try dsimp only at h
    obtain ⟨⟨q0, q1⟩, q2, q3, q4⟩ := h; go_simp; all_goals with_reducible rfl
  try simp only [pt]
  refine tkH 8 ?_ ?_ ?_
  rotate_left
  · intro w h; try dsimp only at h
    obtain ⟨⟨q0, q1⟩, q2, q3, q4⟩ := h; go_simp; all_goals with_reducible rfl
  try simp only [pt]
  refine wpAnyH_ready (rs := [4]) (by kernel_rfl) (by simp) ?_
  refine rdH (fun K hK => ?_) ?_
  · go_simp
    refine (ctake_any (by omega) ⟨ro, rn, ra, rl, rc, rus⟩ HSL.out.1.sm wA.drew (HRU.out.below (Below.refl _ _).drew) (HKA.out.ka.pk.asit rfl)).mono ?_
    rintro e w1 ⟨rfl, P1, hp0⟩
    have hp : PkW W.heap.size wA w1 cb P P1 (s.take (kR ⟨ro, rn, ra, rl, rc, rus⟩)) := hp0.un
    clear hp0
    have HB1 := Lib.hid (HBO.out.pk hp fun x h1 h2 => (HBX.out x h1 h2).1)
    have hs1 : (w1.cell? ⟨w.heap.size, 0, none⟩ = some (.pointer (some ⟨cb, 0, none⟩)) ∧ w1.cell? ⟨w.heap.size, 1, none⟩ = some (.pointer (some ⟨db, 0, none⟩))) ∧ w1.cell? ⟨w.heap.size + 1, 5, none⟩ = some (.int .i64 ro) ∧ w1.cell? ⟨w.heap.size + 1, 6, none⟩ = some (.int .i64 rn) ∧ w1.cell? ⟨w.heap.size + 1, 7, none⟩ = some (.slice ra rl rc) := ⟨⟨HB1.out.k.c0, HB1.out.k.c1⟩, HB1.out.a.rd⟩
    have HRU1 : Hid (Ru w1 ⟨ro, rn, ra, rl, rc, rus⟩) := Lib.hid ⟨isUs_keep HRU.out.1 fun h0 g off e => hp.off (Rn.us_in HRU.out h0 e) fun hg => by have h1 := (HKA.out.ka.pk.foot g hg).1; have h2 := HLOW.out h0 g off e; omega, HRU.out.2⟩
    have HK1 := Lib.hid (HKA.out.step hp (HO.out.take HSL.out.1))
    clear hp
    go_wp2_with fail
    refine hK.out _ _ ?_ (fun hH => ?_)
    · exact hs1
    clear hK K
    try simp only [pt]
    refine wpAnyH_ready (rs := [9]) (by kernel_rfl) (by simp) ?_
    refine rdH (fun K hK => ?_) ?_
    · go_simp
      refine (dtakeK_any hl1 hl2 ⟨ro, rn, ra, rl, rc, rus⟩ HLOW.out w1 HRU1.out HK1.out.ka.dk).mono ?_
      rintro e w2 ⟨rfl, D1, hd⟩
      have HB2 := Lib.hid (HB1.out.dk hd fun x h1 h2 => (HBX.out x h1 h2).2)
      have hs2 : (w2.cell? ⟨w.heap.size, 0, none⟩ = some (.pointer (some ⟨cb, 0, none⟩)) ∧ w2.cell? ⟨w.heap.size, 1, none⟩ = some (.pointer (some ⟨db, 0, none⟩))) ∧ w2.cell? ⟨w.heap.size + 1, 5, none⟩ = some (.int .i64 ro) ∧ w2.cell? ⟨w.heap.size + 1, 6, none⟩ = some (.int .i64 rn) ∧ w2.cell? ⟨w.heap.size + 1, 7, none⟩ = some (.slice ra rl rc) := ⟨⟨HB2.out.k.c0, HB2.out.k.c1⟩, HB2.out.a.rd⟩
      have HFIN := Lib.hid (HK1.out.stepD hd (HKA.out.okd.take HSL.out.1) ((Cs.take_uss _ _).trans HKA.out.us))
      clear hd
      go_wp2_with fail
      refine hK.out _ _ ?_ (fun hH => ?_)
      · exact hs2
      clear hK K
      try simp only [pt]
      refine tkH 10 ?_ ?_ ?_
      rotate_left
      · intro w h; try dsimp only at h
        obtain ⟨⟨q0, q1⟩, q2, q3, q4⟩ := h; go_simp; all_goals with_reducible rfl
      try simp only [pt]
      refine tkH 11 ?_ ?_ ?_
      rotate_left
      · intro w h; try dsimp only at h
        obtain ⟨⟨q0, q1⟩, q2, q3, q4⟩ := h; go_simp; all_goals with_reducible rfl
      try simp only [pt]
      refine wpAnyH_done (by kernel_rfl) ?_ _
      clear hs0 hs1 hs2
      go_wp2
      go_ret
      exact ⟨⟨_, rfl⟩, P1, D1, _, _, HFIN.out⟩
    exact AllReadyH.nil
  exact AllReadyH.nil
set_option maxHeartbeats 8000000 in
theorem dw_4 {W : World} {g cb db : Nat} {P D : Nat → Prop} {n : Nat} {s sd : Cs} (kd : Int) (uk : ByteArray) (ux un : Int) (ut : ByteArray) (ro rn : Int) (ra : Option Addr) (rl rc : Nat) (hk : kd = 4) (w : World) (hn : n ≤ 200) (h : Kd W w g cb db P D n s sd) :
    Calls Tryd.prog 12 #[.agg #[.pointer (some ⟨cb, 0, none⟩), .pointer (some ⟨db, 0, none⟩)], .agg #[.int .i64 kd, .string uk, .int .i64 ux, .int .i64 un, .string ut, .int .i64 ro, .int .i64 rn, .slice ra rl rc]] w fun e w' => (∃ b, e = .returned (.bool b)) ∧ ∃ P' D' s' sd', Kd W w' g cb db P' D' (n + 1) s' sd' := by
  have hA := Joins.below_alloc2 w (.cells #[.pointer (some ⟨cb, 0, none⟩), .pointer (some ⟨db, 0, none⟩)] 27) (.cells #[.int .i64 kd, .string uk, .int .i64 ux, .int .i64 un, .string ut, .int .i64 ro, .int .i64 rn, .slice ra rl rc] 37)
  have HKA := Lib.hid (h.next hA)
  have hbo : Bo w ((w.alloc (.cells #[.pointer (some ⟨cb, 0, none⟩), .pointer (some ⟨db, 0, none⟩)] 27)).alloc (.cells #[.int .i64 kd, .string uk, .int .i64 ux, .int .i64 un, .string ut, .int .i64 ro, .int .i64 rn, .slice ra rl rc] 37)) cb db kd uk ux un ut ro rn ra rl rc := ⟨(show Kb (w.alloc (.cells #[.pointer (some ⟨cb, 0, none⟩), .pointer (some ⟨db, 0, none⟩)] 27)) w.heap.size cb db from heap_alloc_new w _).next (Joins.below_alloc1 _ _), by have := heap_alloc_new (w.alloc (.cells #[.pointer (some ⟨cb, 0, none⟩), .pointer (some ⟨db, 0, none⟩)] 27)) (.cells #[.int .i64 kd, .string uk, .int .i64 ux, .int .i64 un, .string ut, .int .i64 ro, .int .i64 rn, .slice ra rl rc] 37); rw [show (w.alloc (.cells #[.pointer (some ⟨cb, 0, none⟩), .pointer (some ⟨db, 0, none⟩)] 27)).heap.size = w.heap.size + 1 by simp] at this; exact this⟩
  have hBX : ∀ x, w.heap.size ≤ x → x < w.heap.size + 2 → ¬ P x ∧ ¬ D x := fun x hx _ => kd_boxes h x hx
  have HBX := Lib.hid hBX
  have a0 := hbo.a.c0
  have HBO := Lib.hid hbo
  have HO := Lib.hid h.ok
  have hlend := h.okd.len
  have hl2 : sd.uss.length ≤ 1000 := by omega
  have e1 : ((kd : Int) == 1) = false := beq_false_of_ne (by omega)
  have e2 : ((kd : Int) == 2) = false := beq_false_of_ne (by omega)
  have e3 : ((kd : Int) == 3) = false := beq_false_of_ne (by omega)
  have e4 : ((kd : Int) == 4) = true := beq_iff_eq.2 hk
  clear hA hbo hBX h hk hlend
  go_enter Tryd.func12, Tryd.ntmps12
  go_upto_region 11 with fail
  generalize (w.alloc (.cells #[.pointer (some ⟨cb, 0, none⟩), .pointer (some ⟨db, 0, none⟩)] 27)).alloc (.cells #[.int .i64 kd, .string uk, .int .i64 ux, .int .i64 un, .string ut, .int .i64 ro, .int .i64 rn, .slice ra rl rc] 37) = wA at *
  have k0 := HBO.out.k.c0
  clear a0
  go_wp2_with fail
  refine (cresume_any wA HKA.out.ka.pk).mono ?_
  rintro e w1 ⟨rfl, P1, hp⟩
  have HB1 := Lib.hid (HBO.out.pk hp fun x h1 h2 => (HBX.out x h1 h2).1)
  have HK1 := Lib.hid (HKA.out.step hp HO.out.resume)
  have k1 := HB1.out.k.c1
  clear hp k0
  go_wp2_with fail
  refine (eresume_any hl2 w1 HK1.out.ka.dk).mono ?_
  rintro e w2 ⟨rfl, D1, hd⟩
  have HFIN := Lib.hid (HK1.out.stepD hd HKA.out.okd.resume HKA.out.us)
  clear hd k1
  go_wp2
  go_ret
  exact ⟨⟨_, rfl⟩, P1, D1, _, _, HFIN.out⟩
set_option maxHeartbeats 8000000 in
theorem dw_0 {W : World} {g cb db : Nat} {P D : Nat → Prop} {n : Nat} {s sd : Cs} (kd : Int) (uk : ByteArray) (ux un : Int) (ut : ByteArray) (ro rn : Int) (ra : Option Addr) (rl rc : Nat) (hk : ¬ (1 ≤ kd ∧ kd ≤ 5)) (w : World)  (h : Kd W w g cb db P D n s sd) :
    Calls Tryd.prog 12 #[.agg #[.pointer (some ⟨cb, 0, none⟩), .pointer (some ⟨db, 0, none⟩)], .agg #[.int .i64 kd, .string uk, .int .i64 ux, .int .i64 un, .string ut, .int .i64 ro, .int .i64 rn, .slice ra rl rc]] w fun e w' => (∃ b, e = .returned (.bool b)) ∧ ∃ P' D' s' sd', Kd W w' g cb db P' D' (n + 1) s' sd' := by
  have hA := Joins.below_alloc2 w (.cells #[.pointer (some ⟨cb, 0, none⟩), .pointer (some ⟨db, 0, none⟩)] 27) (.cells #[.int .i64 kd, .string uk, .int .i64 ux, .int .i64 un, .string ut, .int .i64 ro, .int .i64 rn, .slice ra rl rc] 37)
  have HKA := Lib.hid (h.next hA)
  have hab : Ab ((w.alloc (.cells #[.pointer (some ⟨cb, 0, none⟩), .pointer (some ⟨db, 0, none⟩)] 27)).alloc (.cells #[.int .i64 kd, .string uk, .int .i64 ux, .int .i64 un, .string ut, .int .i64 ro, .int .i64 rn, .slice ra rl rc] 37)) (w.heap.size + 1) kd uk ux un ut ro rn ra rl rc := by have := heap_alloc_new (w.alloc (.cells #[.pointer (some ⟨cb, 0, none⟩), .pointer (some ⟨db, 0, none⟩)] 27)) (.cells #[.int .i64 kd, .string uk, .int .i64 ux, .int .i64 un, .string ut, .int .i64 ro, .int .i64 rn, .slice ra rl rc] 37); rw [show (w.alloc (.cells #[.pointer (some ⟨cb, 0, none⟩), .pointer (some ⟨db, 0, none⟩)] 27)).heap.size = w.heap.size + 1 by simp] at this; exact this
  have a0 := hab.c0
  have e1 : ((kd : Int) == 1) = false := beq_false_of_ne (by omega)
  have e2 : ((kd : Int) == 2) = false := beq_false_of_ne (by omega)
  have e3 : ((kd : Int) == 3) = false := beq_false_of_ne (by omega)
  have e4 : ((kd : Int) == 4) = false := beq_false_of_ne (by omega)
  have e5 : ((kd : Int) == 5) = false := beq_false_of_ne (by omega)
  clear hA hab h hk
  go_enter Tryd.func12, Tryd.ntmps12
  go_wp2
  go_ret
  exact ⟨⟨_, rfl⟩, P, D, s, sd, HKA.out.more⟩
set_option maxHeartbeats 8000000 in
theorem dw_5 {W : World} {g cb db : Nat} {P D : Nat → Prop} {n : Nat} {s sd : Cs} (kd : Int) (uk : ByteArray) (ux un : Int) (ut : ByteArray) (ro rn : Int) (ra : Option Addr) (rl rc : Nat) (hk : kd = 5) (w : World)  (h : Kd W w g cb db P D n s sd) :
    Calls Tryd.prog 12 #[.agg #[.pointer (some ⟨cb, 0, none⟩), .pointer (some ⟨db, 0, none⟩)], .agg #[.int .i64 kd, .string uk, .int .i64 ux, .int .i64 un, .string ut, .int .i64 ro, .int .i64 rn, .slice ra rl rc]] w fun e w' => (∃ b, e = .returned (.bool b)) ∧ ∃ P' D' s' sd', Kd W w' g cb db P' D' (n + 1) s' sd' := by
  have hA := Joins.below_alloc2 w (.cells #[.pointer (some ⟨cb, 0, none⟩), .pointer (some ⟨db, 0, none⟩)] 27) (.cells #[.int .i64 kd, .string uk, .int .i64 ux, .int .i64 un, .string ut, .int .i64 ro, .int .i64 rn, .slice ra rl rc] 37)
  have HKA := Lib.hid (h.next hA)
  have hbo : Bo w ((w.alloc (.cells #[.pointer (some ⟨cb, 0, none⟩), .pointer (some ⟨db, 0, none⟩)] 27)).alloc (.cells #[.int .i64 kd, .string uk, .int .i64 ux, .int .i64 un, .string ut, .int .i64 ro, .int .i64 rn, .slice ra rl rc] 37)) cb db kd uk ux un ut ro rn ra rl rc := ⟨(show Kb (w.alloc (.cells #[.pointer (some ⟨cb, 0, none⟩), .pointer (some ⟨db, 0, none⟩)] 27)) w.heap.size cb db from heap_alloc_new w _).next (Joins.below_alloc1 _ _), by have := heap_alloc_new (w.alloc (.cells #[.pointer (some ⟨cb, 0, none⟩), .pointer (some ⟨db, 0, none⟩)] 27)) (.cells #[.int .i64 kd, .string uk, .int .i64 ux, .int .i64 un, .string ut, .int .i64 ro, .int .i64 rn, .slice ra rl rc] 37); rw [show (w.alloc (.cells #[.pointer (some ⟨cb, 0, none⟩), .pointer (some ⟨db, 0, none⟩)] 27)).heap.size = w.heap.size + 1 by simp] at this; exact this⟩
  have a0 := hbo.a.c0
  have e1 : ((kd : Int) == 1) = false := beq_false_of_ne (by omega)
  have e2 : ((kd : Int) == 2) = false := beq_false_of_ne (by omega)
  have e3 : ((kd : Int) == 3) = false := beq_false_of_ne (by omega)
  have e4 : ((kd : Int) == 4) = false := beq_false_of_ne (by omega)
  have e5 : ((kd : Int) == 5) = true := beq_iff_eq.2 hk
  obtain ⟨jb, FJ, M, ak, lk, ck, rk, ap, lp, cp, rp, ao, lo, co, hq, hD⟩ := HKA.out.ka.dk
  have hl0 : lp = 0 := by
    have h1 := hq.po.len
    have h2 := hq.pr.is.size
    rw [List.length_drop, HKA.out.us] at h1
    simp only [List.length_nil] at h1
    omega
  subst hl0
  have c5 := hq.c5
  have k1 := hbo.k.c1
  clear hA hbo h hk hq hD
  go_enter Tryd.func12, Tryd.ntmps12
  go_wp2
  go_ret
  exact ⟨⟨_, rfl⟩, P, D, s, sd, HKA.out.more⟩
theorem dw_any {W : World} {g cb db : Nat} {P D : Nat → Prop} {n : Nat} {s sd : Cs} (kd : Int) (uk : ByteArray) (ux un : Int) (ut : ByteArray) (ro rn : Int) (ra : Option Addr) (rl rc : Nat) (rus : List Up) (h1 : ¬ kd = 1) (h2 : ¬ kd = 2) (hn : n ≤ 200) (w : World) (hok : okA (kd, (uk, ux, un, ut), ⟨ro, rn, ra, rl, rc, rus⟩)) (hru : Ru w ⟨ro, rn, ra, rl, rc, rus⟩) (hlow : 0 < rl → ∀ g off, ra = some ⟨g, off, none⟩ → g < W.heap.size) (h : Kd W w g cb db P D n s sd) :
    Calls Tryd.prog 12 #[.agg #[.pointer (some ⟨cb, 0, none⟩), .pointer (some ⟨db, 0, none⟩)], .agg #[.int .i64 kd, .string uk, .int .i64 ux, .int .i64 un, .string ut, .int .i64 ro, .int .i64 rn, .slice ra rl rc]] w fun e w' => (∃ b, e = .returned (.bool b)) ∧ ∃ P' D' s' sd', Kd W w' g cb db P' D' (n + 1) s' sd' := by
  by_cases k3 : kd = 3
  · exact dw_3 kd uk ux un ut ro rn ra rl rc rus k3 w hn hok hru hlow h
  by_cases k4 : kd = 4
  · exact dw_4 kd uk ux un ut ro rn ra rl rc k4 w hn h
  by_cases k5 : kd = 5
  · exact dw_5 kd uk ux un ut ro rn ra rl rc k5 w h
  exact dw_0 kd uk ux un ut ro rn ra rl rc (by omega) w h
/-- What is told ahead of a call, held: the call's block ga; what was open (row go), what was pending (row gp), the value (block gv). -/
structure Kp (W w : World) (g cb db : Nat) (P D : Nat → Prop) (s sd : Cs) (ga : Nat) (kd : Int) (uk : ByteArray) (ux un : Int) (ut : ByteArray) (ro rn : Int) (ra : Option Addr) (rl rc : Nat) (go : Nat) (us : List Up) (gp : Nat) (xp : List Rn) (gv : Nat) (v : Y.Vl) : Prop where
  ka : Ka W w g cb db P D s sd
  ab : Ab w ga kd uk ux un ut ro rn ra rl rc
  na : ¬ P ga
  op : Ho w P go us
  pe : Hx w P gp xp
  va : Hv w P gv v
section
variable {W w w0 w' : World} {B b g cb db ga go gp gv : Nat} {P D P' D' : Nat → Prop} {s sd s' sd' : Cs} {kd : Int} {uk : ByteArray} {ux un : Int} {ut : ByteArray} {ro rn : Int} {ra : Option Addr} {rl rc : Nat} {us : List Up} {xp xs : List Rn} {v : Y.Vl}
theorem Ho.newF (hp : Pk B w0 b P s) (hr : Rw w go us) (hg : w0.heap.size ≤ go) (hv : gv < w0.heap.size) : Ho w (fun x => P x ∨ x = gv) go us := ⟨hr, fun e => e.elim (Ho.new hp hr hg).ng fun e => by omega⟩
theorem Hx.newF (hp : Pk B w0 b P s) (hrz : Rz w gp xs) (hg : w0.heap.size ≤ gp) (how : ∀ r ∈ xs, Own w0.heap.size w r) (hv : gv < w0.heap.size) : Hx w (fun x => P x ∨ x = gv) gp xs :=
  ⟨hrz, fun e => e.elim (Hx.new hp hrz hg how).ng fun e => by omega, fun r hr => by
    obtain ⟨c, e, hw, hc, e1, e2⟩ := how r hr
    exact ⟨c, e, hw, fun e => e.elim (fun e => by have := (hp.foot c e).2; omega) fun e => by omega, e1, e2⟩⟩
theorem Ab.ne (h : Ab w ga kd uk ux un ut ro rn ra rl rc) (hv : Y.Vb w gv v) : ga ≠ gv := by
  rintro rfl
  have h1 := h.symm.trans hv
  injection h1 with h1
  injection h1 with _ h1 _
  exact absurd h1 (by decide)
theorem kp_make (h : Kz W w g cb db P D s sd gv) (hab : Ab w ga kd uk ux un ut ro rn ra rl rc) (hna : ¬ P ga) (ho : Ho w (fun x => P x ∨ x = gv) go us) (hx : Hx w (fun x => P x ∨ x = gv) gp xp) (v1 v2 : Int) (v3 : ByteArray) :
    Kp W (((w.setCell ⟨gv, 0, none⟩ (.int .i64 v1)).setCell ⟨gv, 1, none⟩ (.int .i64 v2)).setCell ⟨gv, 2, none⟩ (.string v3)) g cb db P D s sd ga kd uk ux un ut ro rn ra rl rc go us gp xp gv (v1, v2, v3) :=
  have hl := lv_set3 w gv (.int .i64 v1) (.int .i64 v2) (.string v3)
  ⟨(h.store v1 v2 v3).1, hab.same (hl.block ga hab.lt (hab.ne h.vb)), hna, ho.own' hl, hx.own' hl, (h.store v1 v2 v3).2⟩
theorem Kp.next (h : Kp W w g cb db P D s sd ga kd uk ux un ut ro rn ra rl rc go us gp xp gv v) (hb : Below w.heap.size w w') : Kp W w' g cb db P D s sd ga kd uk ux un ut ro rn ra rl rc go us gp xp gv v :=
  ⟨h.ka.next hb, h.ab.next hb, h.na, h.op.next hb, h.pe.next hb, h.va.next hb⟩
theorem Kp.step (h : Kp W w g cb db P D s sd ga kd uk ux un ut ro rn ra rl rc go us gp xp gv v) (hp : PkW W.heap.size w w' cb P P' s') : Kp W w' g cb db P' D s' sd ga kd uk ux un ut ro rn ra rl rc go us gp xp gv v :=
  ⟨h.ka.step hp, h.ab.same (hp.off h.ab.lt h.na), hp.not h.ab.lt h.na, h.op.step hp, h.pe.step hp, h.va.step hp⟩
end
end Go.Proofs.YtbbgibekplfacaaDoor
