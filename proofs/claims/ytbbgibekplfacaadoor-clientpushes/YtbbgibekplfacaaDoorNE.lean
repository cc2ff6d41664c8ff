/- A call on both (do). -/
import Derived.Test.YtbbgibekplfacaaDoorRH
import Derived.Test.YtbbgibekplfacaaDoorND
namespace Go.Proofs.YtbbgibekplfacaaDoor
open Go Go.RowKit
set_option maxRecDepth 20000
/-- The client behind a call. -/
def Cs.act (s : Cs) (a : Ac) : Cs :=
  if a.1 = 1 then s.upd a.2.1 else if a.1 = 2 then s.push else if a.1 = 3 then s.take (kR a.2.2) else if a.1 = 4 then s.resume else if a.1 = 5 then (if s.k < s.uss.length then s.take (s.o, ((s.k + 1 : Nat) : Int), s.uss.getD s.k []) else s) else s
theorem mem_getL {l : List (List Up)} {k : Nat} (h : k < l.length) : l.getD k [] ∈ l := by
  have e : l.getD k [] = l[k] := by simp [List.getD_eq_getElem?_getD, h]
  rw [e]; exact List.getElem_mem _
theorem Cs.Ok.act {n : Nat} {s : Cs} (h : s.Ok n) {a : Ac} (ha : okA a) : (s.act a).Ok (n + 1) := by
  obtain ⟨h1, h2⟩ := okA_sl ha
  unfold Cs.act
  split
  · exact h.upd h2
  · split
    · exact h.push
    · split
      · exact h.take h1
      · split
        · exact h.resume
        · split
          · split
            next hk => exact h.take (h.su _ (mem_getL hk))
            next => exact h.more
          · exact h.more
/-- Behind the program's Push its round is laid in a block; then comes the document's. -/
theorem do2_fin {W w w1 w2 : World} {cb db : Nat} {P D P1 D1 : Nat → Prop} {n m : Nat} {s s' : Cs} {o nn : Int} {a : Option Addr} {l c : Nat} {us : List Up} {O : Obj} (h : Kq W w cb db P D n s) (hp : PkW W.heap.size w w1 cb P P1 s') (hA : Below w1.heap.size w1 (w1.alloc O)) (hd : DkW W.heap.size (w1.alloc O) w2 db D D1 s') (hok : s'.Ok m) (hr : Ru w1 ⟨o, nn, a, l, c, us⟩) (hof : ∀ g off, a = some ⟨g, off, none⟩ → w.heap.size ≤ g) (hb : Rb (w1.alloc O) w1.heap.size o nn a l c) :
    KqW W w w2 cb db P D P1 D1 m s' ∧ Ru w2 ⟨o, nn, a, l, c, us⟩ ∧ Rb w2 w1.heap.size o nn a l c := by
  have hdf : ∀ x, w.heap.size ≤ x → ¬ D x := fun x hx e => by have := h.dk.foot x e; omega
  have hs1 := hp.lv.size
  have hr1 := hr.below hA
  exact ⟨kq_d h ⟨hp.pk.next hA, hp.lv.trans (Lv.ofBelow hA _), hp.new⟩ hd hok, ⟨isUs_keep hr1.1 fun h0 g off e => hd.lv.block g (Rn.us_in hr1 h0 e) fun hx => hdf g (hof g off e) hx.2, hr.2⟩, (hd.lv.block _ hb.lt fun hx => hdf _ hs1 hx.2).trans hb⟩
theorem sl_add {n : Nat} {s : Cs} (h : s.Ok n) {u : Up} (hu : u.1.size ≤ 1000 ∧ Y.Sh u.2.2.2) : Sl (s.op ++ [u]) := by
  refine ⟨by have := h.s8; simp; omega, fun x hx => ?_⟩
  rcases List.mem_append.1 hx with hx | hx
  · exact h.so.2 x hx
  · rw [List.mem_singleton.1 hx]; exact hu
section
variable {W w w' : World} {cb db : Nat} {P D P' D' : Nat → Prop} {n : Nat} {s : Cs}
/-- A block that isn't the program's client's stays. -/
theorem PkW.off {B b : Nat} {F F' : Nat → Prop} (h : PkW B w w' b F F' s) {g : Nat} (hg : g < w.heap.size) (hn : ¬ F g) : w'.heap[g]? = w.heap[g]? := h.lv.block g hg hn
theorem PkW.un {B b : Nat} {F F' : Nat → Prop} (h : PkW B w.drew w' b F F' s) : PkW B w w' b F F' s := ⟨h.pk, ⟨h.lv.os, h.lv.tape, h.lv.output, h.lv.size, h.lv.block⟩, h.new⟩
theorem dtakeK_any {B b : Nat} {D : Nat → Prop} (hkl : s.kn.length ≤ 1000) (hul : s.uss.length ≤ 1000) (r : Rn) (hrl : 0 < r.len → ∀ g off, r.a = some ⟨g, off, none⟩ → g < B) (w : World) (hu : Ru w r) (h : Dk B w b D s) :
    Calls Tryd.prog 37 #[.pointer (some ⟨b, 0, none⟩), rv r] w fun e w' => e = .returned (.int .i64 (s.takeE (kR r))) ∧ ∃ D', DkW B w w' b D D' (s.take (kR r)) := by
  obtain ⟨jb, FJ, M, ak, lk, ck, rk, ap, lp, cp, rp, ao, lo, co, hq, rfl⟩ := h
  obtain rfl : rk.length = lk := hq.kr.is.size
  obtain rfl : rp.length = lp := hq.pr.is.size
  exact dtake_any hkl hul r (fun h0 g off e => hq.low g (hrl h0 g off e)) w hu hq
theorem kq_boxes (h : Kq W w cb db P D n s) (x : Nat) (hx : w.heap.size ≤ x) : ¬ P x ∧ ¬ D x := ⟨fun e => by have := (h.pk.foot x e).2; omega, fun e => by have := h.dk.foot x e; omega⟩
/-- The act's and the kit's boxes. -/
structure Bo (w wr : World) (cb db : Nat) (kd : Int) (uk : ByteArray) (ux un : Int) (ut : ByteArray) (ro rn : Int) (ra : Option Addr) (rl rc : Nat) : Prop where
  k : Kb wr w.heap.size cb db
  a : Ab wr (w.heap.size + 1) kd uk ux un ut ro rn ra rl rc
theorem Bo.dk {w2 : World} {B b : Nat} {F F' : Nat → Prop} {kd : Int} {uk : ByteArray} {ux un : Int} {ut : ByteArray} {ro rn : Int} {ra : Option Addr} {rl rc : Nat} (h : Bo w w2 cb db kd uk ux un ut ro rn ra rl rc) (hp : DkW B w2 w' b F F' s) (hf : ∀ x, w.heap.size ≤ x → x < w.heap.size + 2 → ¬ F x) : Bo w w' cb db kd uk ux un ut ro rn ra rl rc :=
  ⟨h.k.same (hp.lv.block _ h.k.lt fun e => hf _ (Nat.le_refl _) (by omega) e.2), h.a.same (hp.lv.block _ h.a.lt fun e => hf _ (by omega) (by omega) e.2)⟩
theorem Bo.pk {w2 : World} {B b : Nat} {F F' : Nat → Prop} {kd : Int} {uk : ByteArray} {ux un : Int} {ut : ByteArray} {ro rn : Int} {ra : Option Addr} {rl rc : Nat} (h : Bo w w2 cb db kd uk ux un ut ro rn ra rl rc) (hp : PkW B w2 w' b F F' s) (hf : ∀ x, w.heap.size ≤ x → x < w.heap.size + 2 → ¬ F x) : Bo w w' cb db kd uk ux un ut ro rn ra rl rc :=
  ⟨h.k.same (hp.off h.k.lt (hf _ (Nat.le_refl _) (by omega))), h.a.same (hp.off h.a.lt (hf _ (by omega) (by omega)))⟩
end
set_option maxHeartbeats 8000000 in
theorem do_1 {W : World} {cb db : Nat} {P D : Nat → Prop} {n : Nat} {s : Cs} (kd : Int) (uk : ByteArray) (ux un : Int) (ut : ByteArray) (ro rn : Int) (ra : Option Addr) (rl rc : Nat) (rus : List Up) (hk : kd = 1) (w : World) (hwd : X.Wd W) (hok : okA (kd, (uk, ux, un, ut), ⟨ro, rn, ra, rl, rc, rus⟩)) (hru : Ru w ⟨ro, rn, ra, rl, rc, rus⟩) (hlow : 0 < rl → ∀ g off, ra = some ⟨g, off, none⟩ → g < W.heap.size) (h : Kq W w cb db P D n s) :
    Calls Tryd.prog 12 #[.agg #[.pointer (some ⟨cb, 0, none⟩), .pointer (some ⟨db, 0, none⟩)], .agg #[.int .i64 kd, .string uk, .int .i64 ux, .int .i64 un, .string ut, .int .i64 ro, .int .i64 rn, .slice ra rl rc]] w fun e w' => e = .returned (.bool true) ∧ ∃ P' D', KqW W w w' cb db P D P' D' (n + 1) (s.act (kd, (uk, ux, un, ut), ⟨ro, rn, ra, rl, rc, rus⟩)) := by
  have hA := Joins.below_alloc2 w (.cells #[.pointer (some ⟨cb, 0, none⟩), .pointer (some ⟨db, 0, none⟩)] 27) (.cells #[.int .i64 kd, .string uk, .int .i64 ux, .int .i64 un, .string ut, .int .i64 ro, .int .i64 rn, .slice ra rl rc] 37)
  have HKA := Lib.hid (kqW_no h hA)
  have hbo : Bo w ((w.alloc (.cells #[.pointer (some ⟨cb, 0, none⟩), .pointer (some ⟨db, 0, none⟩)] 27)).alloc (.cells #[.int .i64 kd, .string uk, .int .i64 ux, .int .i64 un, .string ut, .int .i64 ro, .int .i64 rn, .slice ra rl rc] 37)) cb db kd uk ux un ut ro rn ra rl rc := ⟨(show Kb (w.alloc (.cells #[.pointer (some ⟨cb, 0, none⟩), .pointer (some ⟨db, 0, none⟩)] 27)) w.heap.size cb db from heap_alloc_new w _).next (Joins.below_alloc1 _ _), by have := heap_alloc_new (w.alloc (.cells #[.pointer (some ⟨cb, 0, none⟩), .pointer (some ⟨db, 0, none⟩)] 27)) (.cells #[.int .i64 kd, .string uk, .int .i64 ux, .int .i64 un, .string ut, .int .i64 ro, .int .i64 rn, .slice ra rl rc] 37); rw [show (w.alloc (.cells #[.pointer (some ⟨cb, 0, none⟩), .pointer (some ⟨db, 0, none⟩)] 27)).heap.size = w.heap.size + 1 by simp] at this; exact this⟩
  have hBX : ∀ x, w.heap.size ≤ x → x < w.heap.size + 2 → ¬ P x ∧ ¬ D x := fun x hx _ => kq_boxes h x hx
  have HBX := Lib.hid hBX
  have a0 := hbo.a.c0
  have HBO := Lib.hid hbo
  have HH := Lib.hid h
  have HWD := Lib.hid hwd
  have HRU := Lib.hid (hru.below hA)
  have HSL := Lib.hid (okA_sl hok)
  have HOK := Lib.hid hok
  have HLOW := Lib.hid hlow
  have HA := Lib.hid hA
  have hok0 := h.ok
  have hlen := hok0.len
  have HO := Lib.hid hok0
  have e1 : ((kd : Int) == 1) = true := beq_iff_eq.2 hk
  have hact : s.act (kd, (uk, ux, un, ut), ⟨ro, rn, ra, rl, rc, rus⟩) = s.upd (uk, ux, un, ut) := by unfold Cs.act; rw [if_pos hk]
  rw [hact]
  clear hact
  clear hA hbo hBX h hwd hru hok hlow hok0 hk
  go_enter Tryd.func12, Tryd.ntmps12
  go_upto_region 3 with fail
  generalize (w.alloc (.cells #[.pointer (some ⟨cb, 0, none⟩), .pointer (some ⟨db, 0, none⟩)] 27)).alloc (.cells #[.int .i64 kd, .string uk, .int .i64 ux, .int .i64 un, .string ut, .int .i64 ro, .int .i64 rn, .slice ra rl rc] 37) = wA at *
  clear a0
  have HKA2 := HKA
  have hs0 : (wA.cell? ⟨w.heap.size, 0, none⟩ = some (.pointer (some ⟨cb, 0, none⟩)) ∧ wA.cell? ⟨w.heap.size, 1, none⟩ = some (.pointer (some ⟨db, 0, none⟩))) ∧ wA.cell? ⟨w.heap.size + 1, 1, none⟩ = some (.string uk) ∧ wA.cell? ⟨w.heap.size + 1, 2, none⟩ = some (.int .i64 ux) ∧ wA.cell? ⟨w.heap.size + 1, 3, none⟩ = some (.int .i64 un) ∧ wA.cell? ⟨w.heap.size + 1, 4, none⟩ = some (.string ut) := ⟨⟨HBO.out.k.c0, HBO.out.k.c1⟩, HBO.out.a.up⟩
  go_wp2_with fail
  refine wp_region_held_drew (S := fun w' => (w'.cell? ⟨w.heap.size, 0, none⟩ = some (.pointer (some ⟨cb, 0, none⟩)) ∧ w'.cell? ⟨w.heap.size, 1, none⟩ = some (.pointer (some ⟨db, 0, none⟩))) ∧ w'.cell? ⟨w.heap.size + 1, 1, none⟩ = some (.string uk) ∧ w'.cell? ⟨w.heap.size + 1, 2, none⟩ = some (.int .i64 ux) ∧ w'.cell? ⟨w.heap.size + 1, 3, none⟩ = some (.int .i64 un) ∧ w'.cell? ⟨w.heap.size + 1, 4, none⟩ = some (.string ut)) (by kernel_rfl) ?_ (fun hH => ?_)
  · exact hs0
  refine tkH 0 ?_ ?_ ?_
  rotate_left
  · intro w h; try dsimp only at h
    obtain ⟨⟨q0, q1⟩, q2, q3, q4, q5⟩ := h; go_simp; all_goals with_reducible rfl
  try simp only [pt]
  refine tkH 1 ?_ ?_ ?_
  rotate_left
  · intro w h; try dsimp only at h
    obtain ⟨⟨q0, q1⟩, q2, q3, q4, q5⟩ := h; go_simp; all_goals with_reducible rfl
  try simp only [pt]
  refine tkH 2 ?_ ?_ ?_
  rotate_left
  · intro w h; try dsimp only at h
    obtain ⟨⟨q0, q1⟩, q2, q3, q4, q5⟩ := h; go_simp; all_goals with_reducible rfl
  try simp only [pt]
  refine tkH 3 ?_ ?_ ?_
  rotate_left
  · intro w h; try dsimp only at h
    obtain ⟨⟨q0, q1⟩, q2, q3, q4, q5⟩ := h; go_simp; all_goals with_reducible rfl
  try simp only [pt]
  refine tkH 5 ?_ ?_ ?_
  rotate_left
  · intro w h; try dsimp only at h
    obtain ⟨⟨q0, q1⟩, q2, q3, q4, q5⟩ := h; go_simp; all_goals with_reducible rfl
  try simp only [pt]
  refine tkH 6 ?_ ?_ ?_
  rotate_left
  · intro w h; try dsimp only at h
    obtain ⟨⟨q0, q1⟩, q2, q3, q4, q5⟩ := h; go_simp; all_goals with_reducible rfl
  try simp only [pt]
  refine tkH 7 ?_ ?_ ?_
  rotate_left
  · intro w h; try dsimp only at h
    obtain ⟨⟨q0, q1⟩, q2, q3, q4, q5⟩ := h; go_simp; all_goals with_reducible rfl
  try simp only [pt]
  refine tkH 8 ?_ ?_ ?_
  rotate_left
  · intro w h; try dsimp only at h
    obtain ⟨⟨q0, q1⟩, q2, q3, q4, q5⟩ := h; go_simp; all_goals with_reducible rfl
  try simp only [pt]
  refine wpAnyH_ready (rs := [4]) (by kernel_rfl) (by simp) ?_
  refine rdH (fun K hK => ?_) ?_
  · go_simp
    refine (cupd_any (uk, ux, un, ut) HO.out.s8 HO.out.so.sm (sl_add HO.out HSL.out.2).sm wA.drew (HWD.out.below (HKA.out.kq.bel.drew)) (HKA.out.kq.pk.asit rfl)).mono ?_
    rintro e w1 ⟨rfl, P1, hp0⟩
    have hp : PkW W.heap.size wA w1 cb P P1 (s.upd (uk, ux, un, ut)) := hp0.un
    clear hp0
    have HB1 := Lib.hid (HBO.out.pk hp fun x h1 h2 => (HBX.out x h1 h2).1)
    have hs1 : (w1.cell? ⟨w.heap.size, 0, none⟩ = some (.pointer (some ⟨cb, 0, none⟩)) ∧ w1.cell? ⟨w.heap.size, 1, none⟩ = some (.pointer (some ⟨db, 0, none⟩))) ∧ w1.cell? ⟨w.heap.size + 1, 1, none⟩ = some (.string uk) ∧ w1.cell? ⟨w.heap.size + 1, 2, none⟩ = some (.int .i64 ux) ∧ w1.cell? ⟨w.heap.size + 1, 3, none⟩ = some (.int .i64 un) ∧ w1.cell? ⟨w.heap.size + 1, 4, none⟩ = some (.string ut) := ⟨⟨HB1.out.k.c0, HB1.out.k.c1⟩, HB1.out.a.up⟩
    have HP := Lib.hid hp
    clear hp
    go_wp2_with fail
    refine hK.out _ _ ?_ (fun hH => ?_)
    · exact hs1
    clear hK K
    try simp only [pt]
    refine wpAnyH_ready (rs := [9]) (by kernel_rfl) (by simp) ?_
    refine rdH (fun K hK => ?_) ?_
    · go_simp
      have hdk := (kq_p HKA.out.kq HP.out).2.2.1
      refine (dupd_any (uk, ux, un, ut) HO.out.s8 w1 hdk).mono ?_
      rintro e w2 ⟨rfl, D1, hd⟩
      have HB2 := Lib.hid (HB1.out.dk hd fun x h1 h2 => (HBX.out x h1 h2).2)
      have hs2 : (w2.cell? ⟨w.heap.size, 0, none⟩ = some (.pointer (some ⟨cb, 0, none⟩)) ∧ w2.cell? ⟨w.heap.size, 1, none⟩ = some (.pointer (some ⟨db, 0, none⟩))) ∧ w2.cell? ⟨w.heap.size + 1, 1, none⟩ = some (.string uk) ∧ w2.cell? ⟨w.heap.size + 1, 2, none⟩ = some (.int .i64 ux) ∧ w2.cell? ⟨w.heap.size + 1, 3, none⟩ = some (.int .i64 un) ∧ w2.cell? ⟨w.heap.size + 1, 4, none⟩ = some (.string ut) := ⟨⟨HB2.out.k.c0, HB2.out.k.c1⟩, HB2.out.a.up⟩
      have HFIN := Lib.hid (kq_d HKA.out.kq HP.out hd (HO.out.upd HSL.out.2))
      clear hd hdk
      go_wp2_with fail
      refine hK.out _ _ ?_ (fun hH => ?_)
      · exact hs2
      clear hK K
      try simp only [pt]
      refine tkH 10 ?_ ?_ ?_
      rotate_left
      · intro w h; try dsimp only at h
        obtain ⟨⟨q0, q1⟩, q2, q3, q4, q5⟩ := h; go_simp; all_goals with_reducible rfl
      try simp only [pt]
      refine tkH 11 ?_ ?_ ?_
      rotate_left
      · intro w h; try dsimp only at h
        obtain ⟨⟨q0, q1⟩, q2, q3, q4, q5⟩ := h; go_simp; all_goals with_reducible rfl
      try simp only [pt]
      refine wpAnyH_done (by kernel_rfl) ?_ _
      clear hs0 hs1 hs2
      go_wp2
      go_ret
      exact ⟨rfl, P1, D1, HKA.out.trans HFIN.out⟩
    exact AllReadyH.nil
  exact AllReadyH.nil
set_option maxHeartbeats 8000000 in
theorem do_3 {W : World} {cb db : Nat} {P D : Nat → Prop} {n : Nat} {s : Cs} (kd : Int) (uk : ByteArray) (ux un : Int) (ut : ByteArray) (ro rn : Int) (ra : Option Addr) (rl rc : Nat) (rus : List Up) (hk : kd = 3) (hn : n ≤ 200) (w : World) (hwd : X.Wd W) (hok : okA (kd, (uk, ux, un, ut), ⟨ro, rn, ra, rl, rc, rus⟩)) (hru : Ru w ⟨ro, rn, ra, rl, rc, rus⟩) (hlow : 0 < rl → ∀ g off, ra = some ⟨g, off, none⟩ → g < W.heap.size) (h : Kq W w cb db P D n s) :
    Calls Tryd.prog 12 #[.agg #[.pointer (some ⟨cb, 0, none⟩), .pointer (some ⟨db, 0, none⟩)], .agg #[.int .i64 kd, .string uk, .int .i64 ux, .int .i64 un, .string ut, .int .i64 ro, .int .i64 rn, .slice ra rl rc]] w fun e w' => e = .returned (.bool true) ∧ ∃ P' D', KqW W w w' cb db P D P' D' (n + 1) (s.act (kd, (uk, ux, un, ut), ⟨ro, rn, ra, rl, rc, rus⟩)) := by
  have hA := Joins.below_alloc2 w (.cells #[.pointer (some ⟨cb, 0, none⟩), .pointer (some ⟨db, 0, none⟩)] 27) (.cells #[.int .i64 kd, .string uk, .int .i64 ux, .int .i64 un, .string ut, .int .i64 ro, .int .i64 rn, .slice ra rl rc] 37)
  have HKA := Lib.hid (kqW_no h hA)
  have hbo : Bo w ((w.alloc (.cells #[.pointer (some ⟨cb, 0, none⟩), .pointer (some ⟨db, 0, none⟩)] 27)).alloc (.cells #[.int .i64 kd, .string uk, .int .i64 ux, .int .i64 un, .string ut, .int .i64 ro, .int .i64 rn, .slice ra rl rc] 37)) cb db kd uk ux un ut ro rn ra rl rc := ⟨(show Kb (w.alloc (.cells #[.pointer (some ⟨cb, 0, none⟩), .pointer (some ⟨db, 0, none⟩)] 27)) w.heap.size cb db from heap_alloc_new w _).next (Joins.below_alloc1 _ _), by have := heap_alloc_new (w.alloc (.cells #[.pointer (some ⟨cb, 0, none⟩), .pointer (some ⟨db, 0, none⟩)] 27)) (.cells #[.int .i64 kd, .string uk, .int .i64 ux, .int .i64 un, .string ut, .int .i64 ro, .int .i64 rn, .slice ra rl rc] 37); rw [show (w.alloc (.cells #[.pointer (some ⟨cb, 0, none⟩), .pointer (some ⟨db, 0, none⟩)] 27)).heap.size = w.heap.size + 1 by simp] at this; exact this⟩
  have hBX : ∀ x, w.heap.size ≤ x → x < w.heap.size + 2 → ¬ P x ∧ ¬ D x := fun x hx _ => kq_boxes h x hx
  have HBX := Lib.hid hBX
  have a0 := hbo.a.c0
  have HBO := Lib.hid hbo
  have HH := Lib.hid h
  have HWD := Lib.hid hwd
  have HRU := Lib.hid (hru.below hA)
  have HSL := Lib.hid (okA_sl hok)
  have HOK := Lib.hid hok
  have HLOW := Lib.hid hlow
  have HA := Lib.hid hA
  have hok0 := h.ok
  have hlen := hok0.len
  have HO := Lib.hid hok0
  have e1 : ((kd : Int) == 1) = false := beq_false_of_ne (by omega)
  have e2 : ((kd : Int) == 2) = false := beq_false_of_ne (by omega)
  have e3 : ((kd : Int) == 3) = true := beq_iff_eq.2 hk
  have hact : s.act (kd, (uk, ux, un, ut), ⟨ro, rn, ra, rl, rc, rus⟩) = s.take (kR ⟨ro, rn, ra, rl, rc, rus⟩) := by unfold Cs.act; rw [if_neg (show ¬ kd = 1 by omega), if_neg (show ¬ kd = 2 by omega), if_pos hk]
  rw [hact]
  clear hact
  clear hA hbo hBX h hwd hru hok hlow hok0 hk
  go_enter Tryd.func12, Tryd.ntmps12
  go_upto_region 9 with fail
  generalize (w.alloc (.cells #[.pointer (some ⟨cb, 0, none⟩), .pointer (some ⟨db, 0, none⟩)] 27)).alloc (.cells #[.int .i64 kd, .string uk, .int .i64 ux, .int .i64 un, .string ut, .int .i64 ro, .int .i64 rn, .slice ra rl rc] 37) = wA at *
  clear a0
  have HKA2 := HKA
  have hs0 : (wA.cell? ⟨w.heap.size, 0, none⟩ = some (.pointer (some ⟨cb, 0, none⟩)) ∧ wA.cell? ⟨w.heap.size, 1, none⟩ = some (.pointer (some ⟨db, 0, none⟩))) ∧ wA.cell? ⟨w.heap.size + 1, 5, none⟩ = some (.int .i64 ro) ∧ wA.cell? ⟨w.heap.size + 1, 6, none⟩ = some (.int .i64 rn) ∧ wA.cell? ⟨w.heap.size + 1, 7, none⟩ = some (.slice ra rl rc) := ⟨⟨HBO.out.k.c0, HBO.out.k.c1⟩, HBO.out.a.rd⟩
  go_wp2_with fail
  refine wp_region_held_drew (S := fun w' => (w'.cell? ⟨w.heap.size, 0, none⟩ = some (.pointer (some ⟨cb, 0, none⟩)) ∧ w'.cell? ⟨w.heap.size, 1, none⟩ = some (.pointer (some ⟨db, 0, none⟩))) ∧ w'.cell? ⟨w.heap.size + 1, 5, none⟩ = some (.int .i64 ro) ∧ w'.cell? ⟨w.heap.size + 1, 6, none⟩ = some (.int .i64 rn) ∧ w'.cell? ⟨w.heap.size + 1, 7, none⟩ = some (.slice ra rl rc)) (by kernel_rfl) ?_ (fun hH => ?_)
  · exact hs0
  refine tkH 0 ?_ ?_ ?_
  rotate_left
  · intro w h; try dsimp only at h
    obtain ⟨⟨q0, q1⟩, q2, q3, q4⟩ := h; go_simp; all_goals with_reducible rfl
  try simp only [pt]
  refine tkH 1 ?_ ?_ ?_
  rotate_left
  · intro w h; try dsimp only at h
    obtain ⟨⟨q0, q1⟩, q2, q3, q4⟩ := h; go_simp; all_goals with_reducible rfl
  try simp only [pt]
  refine tkH 2 ?_ ?_ ?_
  rotate_left
  · intro w h; try dsimp only at h
    obtain ⟨⟨q0, q1⟩, q2, q3, q4⟩ := h; go_simp; all_goals with_reducible rfl
  try simp only [pt]
  refine tkH 3 ?_ ?_ ?_
  rotate_left
  · intro w h; try dsimp only at h
    obtain ⟨⟨q0, q1⟩, q2, q3, q4⟩ := h; go_simp; all_goals with_reducible rfl
  try simp only [pt]
  refine tkH 5 ?_ ?_ ?_
  rotate_left
  · intro w h; try dsimp only at h
    obtain ⟨⟨q0, q1⟩, q2, q3, q4⟩ := h; go_simp; all_goals with_reducible rfl
  try simp only [pt]
  refine tkH 6 ?_ ?_ ?_
  rotate_left
  · intro w h; try dsimp only at h
    obtain ⟨⟨q0, q1⟩, q2, q3, q4⟩ := h; go_simp; all_goals with_reducible rfl
  try simp only [pt]
  refine tkH 7 ?_ ?_ ?_
  rotate_left
  · intro w h; try dsimp only at h
    obtain ⟨⟨q0, q1⟩, q2, q3, q4⟩ := h; go_simp; all_goals with_reducible rfl
  try simp only [pt]
  refine tkH 8 ?_ ?_ ?_
  rotate_left
  · intro w h; try dsimp only at h
    obtain ⟨⟨q0, q1⟩, q2, q3, q4⟩ := h; go_simp; all_goals with_reducible rfl
  try simp only [pt]
  refine wpAnyH_ready (rs := [4]) (by kernel_rfl) (by simp) ?_
  refine rdH (fun K hK => ?_) ?_
  · go_simp
    refine (ctake_any (by omega) ⟨ro, rn, ra, rl, rc, rus⟩ HSL.out.1.sm wA.drew (HRU.out.below (Below.refl _ _).drew) (HKA.out.kq.pk.asit rfl)).mono ?_
    rintro e w1 ⟨rfl, P1, hp0⟩
    have hp : PkW W.heap.size wA w1 cb P P1 (s.take (kR ⟨ro, rn, ra, rl, rc, rus⟩)) := hp0.un
    clear hp0
    have HB1 := Lib.hid (HBO.out.pk hp fun x h1 h2 => (HBX.out x h1 h2).1)
    have hs1 : (w1.cell? ⟨w.heap.size, 0, none⟩ = some (.pointer (some ⟨cb, 0, none⟩)) ∧ w1.cell? ⟨w.heap.size, 1, none⟩ = some (.pointer (some ⟨db, 0, none⟩))) ∧ w1.cell? ⟨w.heap.size + 1, 5, none⟩ = some (.int .i64 ro) ∧ w1.cell? ⟨w.heap.size + 1, 6, none⟩ = some (.int .i64 rn) ∧ w1.cell? ⟨w.heap.size + 1, 7, none⟩ = some (.slice ra rl rc) := ⟨⟨HB1.out.k.c0, HB1.out.k.c1⟩, HB1.out.a.rd⟩
    have HP := Lib.hid hp
    have HRU1 : Hid (Ru w1 ⟨ro, rn, ra, rl, rc, rus⟩) := Lib.hid ⟨isUs_keep HRU.out.1 fun h0 g off e => hp.off (Rn.us_in HRU.out h0 e) fun hg => by have h1 := (HKA.out.kq.pk.foot g hg).1; have h2 := HLOW.out h0 g off e; omega, HRU.out.2⟩
    clear hp
    go_wp2_with fail
    refine hK.out _ _ ?_ (fun hH => ?_)
    · exact hs1
    clear hK K
    try simp only [pt]
    refine wpAnyH_ready (rs := [9]) (by kernel_rfl) (by simp) ?_
    refine rdH (fun K hK => ?_) ?_
    · go_simp
      have hdk := (kq_p HKA.out.kq HP.out).2.2.1
      refine (dtakeK_any (by omega) (by omega) ⟨ro, rn, ra, rl, rc, rus⟩ HLOW.out w1 HRU1.out hdk).mono ?_
      rintro e w2 ⟨rfl, D1, hd⟩
      have HB2 := Lib.hid (HB1.out.dk hd fun x h1 h2 => (HBX.out x h1 h2).2)
      have hs2 : (w2.cell? ⟨w.heap.size, 0, none⟩ = some (.pointer (some ⟨cb, 0, none⟩)) ∧ w2.cell? ⟨w.heap.size, 1, none⟩ = some (.pointer (some ⟨db, 0, none⟩))) ∧ w2.cell? ⟨w.heap.size + 1, 5, none⟩ = some (.int .i64 ro) ∧ w2.cell? ⟨w.heap.size + 1, 6, none⟩ = some (.int .i64 rn) ∧ w2.cell? ⟨w.heap.size + 1, 7, none⟩ = some (.slice ra rl rc) := ⟨⟨HB2.out.k.c0, HB2.out.k.c1⟩, HB2.out.a.rd⟩
      have HFIN := Lib.hid (kq_d HKA.out.kq HP.out hd (HO.out.take HSL.out.1))
      clear hd hdk
      go_wp2_with fail
      refine hK.out _ _ ?_ (fun hH => ?_)
      · exact hs2
      clear hK K
      try simp only [pt]
      refine tkH 10 ?_ ?_ ?_
      rotate_left
      · intro w h; try dsimp only at h
        obtain ⟨⟨q0, q1⟩, q2, q3, q4⟩ := h; go_simp; all_goals with_reducible rfl
      try simp only [pt]
      refine tkH 11 ?_ ?_ ?_
      rotate_left
      · intro w h; try dsimp only at h
        obtain ⟨⟨q0, q1⟩, q2, q3, q4⟩ := h; go_simp; all_goals with_reducible rfl
      try simp only [pt]
      refine wpAnyH_done (by kernel_rfl) ?_ _
      clear hs0 hs1 hs2
      go_wp2
      go_ret
      exact ⟨rfl, P1, D1, HKA.out.trans HFIN.out⟩
    exact AllReadyH.nil
  exact AllReadyH.nil
set_option maxHeartbeats 8000000 in
theorem do_2 {W : World} {cb db : Nat} {P D : Nat → Prop} {n : Nat} {s : Cs} (kd : Int) (uk : ByteArray) (ux un : Int) (ut : ByteArray) (ro rn : Int) (ra : Option Addr) (rl rc : Nat) (rus : List Up) (hk : kd = 2) (hn : n ≤ 200) (w : World) (hwd : X.Wd W) (hok : okA (kd, (uk, ux, un, ut), ⟨ro, rn, ra, rl, rc, rus⟩)) (hru : Ru w ⟨ro, rn, ra, rl, rc, rus⟩) (hlow : 0 < rl → ∀ g off, ra = some ⟨g, off, none⟩ → g < W.heap.size) (h : Kq W w cb db P D n s) :
    Calls Tryd.prog 12 #[.agg #[.pointer (some ⟨cb, 0, none⟩), .pointer (some ⟨db, 0, none⟩)], .agg #[.int .i64 kd, .string uk, .int .i64 ux, .int .i64 un, .string ut, .int .i64 ro, .int .i64 rn, .slice ra rl rc]] w fun e w' => e = .returned (.bool true) ∧ ∃ P' D', KqW W w w' cb db P D P' D' (n + 1) (s.act (kd, (uk, ux, un, ut), ⟨ro, rn, ra, rl, rc, rus⟩)) := by
  have hA := Joins.below_alloc2 w (.cells #[.pointer (some ⟨cb, 0, none⟩), .pointer (some ⟨db, 0, none⟩)] 27) (.cells #[.int .i64 kd, .string uk, .int .i64 ux, .int .i64 un, .string ut, .int .i64 ro, .int .i64 rn, .slice ra rl rc] 37)
  have HKA := Lib.hid (kqW_no h hA)
  have hbo : Bo w ((w.alloc (.cells #[.pointer (some ⟨cb, 0, none⟩), .pointer (some ⟨db, 0, none⟩)] 27)).alloc (.cells #[.int .i64 kd, .string uk, .int .i64 ux, .int .i64 un, .string ut, .int .i64 ro, .int .i64 rn, .slice ra rl rc] 37)) cb db kd uk ux un ut ro rn ra rl rc := ⟨(show Kb (w.alloc (.cells #[.pointer (some ⟨cb, 0, none⟩), .pointer (some ⟨db, 0, none⟩)] 27)) w.heap.size cb db from heap_alloc_new w _).next (Joins.below_alloc1 _ _), by have := heap_alloc_new (w.alloc (.cells #[.pointer (some ⟨cb, 0, none⟩), .pointer (some ⟨db, 0, none⟩)] 27)) (.cells #[.int .i64 kd, .string uk, .int .i64 ux, .int .i64 un, .string ut, .int .i64 ro, .int .i64 rn, .slice ra rl rc] 37); rw [show (w.alloc (.cells #[.pointer (some ⟨cb, 0, none⟩), .pointer (some ⟨db, 0, none⟩)] 27)).heap.size = w.heap.size + 1 by simp] at this; exact this⟩
  have hBX : ∀ x, w.heap.size ≤ x → x < w.heap.size + 2 → ¬ P x ∧ ¬ D x := fun x hx _ => kq_boxes h x hx
  have HBX := Lib.hid hBX
  have a0 := hbo.a.c0
  have HBO := Lib.hid hbo
  have HH := Lib.hid h
  have HWD := Lib.hid hwd
  have HRU := Lib.hid (hru.below hA)
  have HSL := Lib.hid (okA_sl hok)
  have HOK := Lib.hid hok
  have HLOW := Lib.hid hlow
  have HA := Lib.hid hA
  have hok0 := h.ok
  have hlen := hok0.len
  have HO := Lib.hid hok0
  have e1 : ((kd : Int) == 1) = false := beq_false_of_ne (by omega)
  have e2 : ((kd : Int) == 2) = true := beq_iff_eq.2 hk
  have hact : s.act (kd, (uk, ux, un, ut), ⟨ro, rn, ra, rl, rc, rus⟩) = s.push := by unfold Cs.act; rw [if_neg (show ¬ kd = 1 by omega), if_pos hk]
  rw [hact]
  clear hact
  clear hA hbo hBX h hwd hru hok hlow hok0 hk
  go_enter Tryd.func12, Tryd.ntmps12
  go_upto_region 5 with fail
  generalize (w.alloc (.cells #[.pointer (some ⟨cb, 0, none⟩), .pointer (some ⟨db, 0, none⟩)] 27)).alloc (.cells #[.int .i64 kd, .string uk, .int .i64 ux, .int .i64 un, .string ut, .int .i64 ro, .int .i64 rn, .slice ra rl rc] 37) = wA at *
  have k0 := HBO.out.k.c0
  clear a0
  go_wp2_with fail
  refine (cpush_any HO.out.k (by omega) HO.out.so.sm wA HKA.out.kq.pk).mono ?_
  rintro e w1 ⟨⟨po, pn, pa, pl, pc, pus⟩, P1, rfl, hp, hru1, hof1, hpr1⟩
  have HB1 := Lib.hid (HBO.out.pk hp fun x h1 h2 => (HBX.out x h1 h2).1)
  have HP := Lib.hid hp
  have HRU1 := Lib.hid hru1
  have HOF1 := Lib.hid hof1
  have HPR1 := Lib.hid hpr1
  have HPB : Hid (Rb (w1.alloc (.cells #[.int .i64 po, .int .i64 pn, .slice pa pl pc] 35)) w1.heap.size po pn pa pl pc) := Lib.hid (Rb.new _ _ _ _ _ _)
  have hA1 := Joins.below_alloc1 w1 (.cells #[.int .i64 po, .int .i64 pn, .slice pa pl pc] 35)
  have hdk := (kq_p HKA.out.kq hp).2.2.1.next hA1
  have k1 := (HB1.out.k.next hA1).c1
  have HDK := Lib.hid hdk
  have HA1 := Lib.hid hA1
  simp only [rv]
  clear hp hru1 hof1 hpr1 hdk hA1 k0
  go_wp2_with fail
  refine (dpush_any HO.out.k (by omega) HO.out.so.sm _ HDK.out).mono ?_
  rintro e w2 ⟨⟨qo, qn, qa, ql, qc, qus⟩, D1, rfl, hd, hru2, hpr2⟩
  have HFIN := Lib.hid (do2_fin HKA.out.kq HP.out HA1.out hd HO.out.push HRU1.out (fun g off e => (HOF1.out g off e).1) HPB.out)
  have HRU2 := Lib.hid hru2
  have hle : pus.length ≤ 1000 := by
    have := HPR1.out.us'
    simp only at this
    rw [this]
    have := HO.out.s8
    split
    · omega
    · simp
  obtain ⟨z1, z2, z3⟩ : qo = po ∧ qn = pn ∧ qus = pus := ⟨hpr2.o'.trans HPR1.out.o'.symm, hpr2.n'.trans HPR1.out.n'.symm, hpr2.us'.trans HPR1.out.us'.symm⟩
  have hlen2 : ql = pl := by
    have h1 := HRU1.out.1.size
    have h2 := HRU2.out.1.size
    simp only at h1 h2
    rw [← h1, ← h2, z3]
  have hpl : pl ≤ 1000 := by have := HRU1.out.1.size; simp only at this; omega
  subst z1 z2 z3 hlen2
  have hpb2 := HFIN.out.2.2
  have d0 := hpb2.c0
  have d1 := hpb2.c1
  have d2 := hpb2.c2
  have HPB2 := Lib.hid hpb2
  have hA2 := Joins.below_alloc1 w2 (.cells #[.int .i64 qo, .int .i64 qn, .slice qa ql qc] 35)
  have hpb3 := HPB2.out.next hA2
  have d0' := hpb3.c0
  have d1' := hpb3.c1
  have d2' := hpb3.c2
  have hqb := Rb.new w2 qo qn qa ql qc
  have b0 := hqb.c0
  have b1 := hqb.c1
  have b2 := hqb.c2
  have HDS := Lib.hid (ds_yes qo qn pa qa ql pc qc qus (by omega) _ (isUs_below HFIN.out.2.1.1 hA2) (isUs_below HRU2.out.1 hA2))
  have HA2 := Lib.hid hA2
  simp only [rv]
  clear hd hru2 hpr2 hpb2 k1 hpb3 hqb hA2 hle hpl HPR1
  go_wp2_with fail
  refine HDS.out.mono ?_
  rintro e w4 ⟨rfl, hb⟩
  have HB4 := Lib.hid (Below.next HA2.out hb)
  clear hb HDS d0 d1 d2 d0' d1' d2' b0 b1 b2
  go_wp2
  go_ret
  exact ⟨rfl, P1, D1, (HKA.out.trans HFIN.out.1).trans (kqW_no HFIN.out.1.kq HB4.out)⟩
set_option maxHeartbeats 8000000 in
theorem do_4 {W : World} {cb db : Nat} {P D : Nat → Prop} {n : Nat} {s : Cs} (kd : Int) (uk : ByteArray) (ux un : Int) (ut : ByteArray) (ro rn : Int) (ra : Option Addr) (rl rc : Nat) (rus : List Up) (hk : kd = 4) (hn : n ≤ 200) (w : World) (hwd : X.Wd W) (hok : okA (kd, (uk, ux, un, ut), ⟨ro, rn, ra, rl, rc, rus⟩)) (hru : Ru w ⟨ro, rn, ra, rl, rc, rus⟩) (hlow : 0 < rl → ∀ g off, ra = some ⟨g, off, none⟩ → g < W.heap.size) (h : Kq W w cb db P D n s) :
    Calls Tryd.prog 12 #[.agg #[.pointer (some ⟨cb, 0, none⟩), .pointer (some ⟨db, 0, none⟩)], .agg #[.int .i64 kd, .string uk, .int .i64 ux, .int .i64 un, .string ut, .int .i64 ro, .int .i64 rn, .slice ra rl rc]] w fun e w' => e = .returned (.bool true) ∧ ∃ P' D', KqW W w w' cb db P D P' D' (n + 1) (s.act (kd, (uk, ux, un, ut), ⟨ro, rn, ra, rl, rc, rus⟩)) := by
  have hA := Joins.below_alloc2 w (.cells #[.pointer (some ⟨cb, 0, none⟩), .pointer (some ⟨db, 0, none⟩)] 27) (.cells #[.int .i64 kd, .string uk, .int .i64 ux, .int .i64 un, .string ut, .int .i64 ro, .int .i64 rn, .slice ra rl rc] 37)
  have HKA := Lib.hid (kqW_no h hA)
  have hbo : Bo w ((w.alloc (.cells #[.pointer (some ⟨cb, 0, none⟩), .pointer (some ⟨db, 0, none⟩)] 27)).alloc (.cells #[.int .i64 kd, .string uk, .int .i64 ux, .int .i64 un, .string ut, .int .i64 ro, .int .i64 rn, .slice ra rl rc] 37)) cb db kd uk ux un ut ro rn ra rl rc := ⟨(show Kb (w.alloc (.cells #[.pointer (some ⟨cb, 0, none⟩), .pointer (some ⟨db, 0, none⟩)] 27)) w.heap.size cb db from heap_alloc_new w _).next (Joins.below_alloc1 _ _), by have := heap_alloc_new (w.alloc (.cells #[.pointer (some ⟨cb, 0, none⟩), .pointer (some ⟨db, 0, none⟩)] 27)) (.cells #[.int .i64 kd, .string uk, .int .i64 ux, .int .i64 un, .string ut, .int .i64 ro, .int .i64 rn, .slice ra rl rc] 37); rw [show (w.alloc (.cells #[.pointer (some ⟨cb, 0, none⟩), .pointer (some ⟨db, 0, none⟩)] 27)).heap.size = w.heap.size + 1 by simp] at this; exact this⟩
  have hBX : ∀ x, w.heap.size ≤ x → x < w.heap.size + 2 → ¬ P x ∧ ¬ D x := fun x hx _ => kq_boxes h x hx
  have HBX := Lib.hid hBX
  have a0 := hbo.a.c0
  have HBO := Lib.hid hbo
  have HH := Lib.hid h
  have HWD := Lib.hid hwd
  have HRU := Lib.hid (hru.below hA)
  have HSL := Lib.hid (okA_sl hok)
  have HOK := Lib.hid hok
  have HLOW := Lib.hid hlow
  have HA := Lib.hid hA
  have hok0 := h.ok
  have hlen := hok0.len
  have HO := Lib.hid hok0
  have e1 : ((kd : Int) == 1) = false := beq_false_of_ne (by omega)
  have e2 : ((kd : Int) == 2) = false := beq_false_of_ne (by omega)
  have e3 : ((kd : Int) == 3) = false := beq_false_of_ne (by omega)
  have e4 : ((kd : Int) == 4) = true := beq_iff_eq.2 hk
  have hact : s.act (kd, (uk, ux, un, ut), ⟨ro, rn, ra, rl, rc, rus⟩) = s.resume := by unfold Cs.act; rw [if_neg (show ¬ kd = 1 by omega), if_neg (show ¬ kd = 2 by omega), if_neg (show ¬ kd = 3 by omega), if_pos hk]
  rw [hact]
  clear hact
  clear hA hbo hBX h hwd hru hok hlow hok0 hk
  go_enter Tryd.func12, Tryd.ntmps12
  go_upto_region 11 with fail
  generalize (w.alloc (.cells #[.pointer (some ⟨cb, 0, none⟩), .pointer (some ⟨db, 0, none⟩)] 27)).alloc (.cells #[.int .i64 kd, .string uk, .int .i64 ux, .int .i64 un, .string ut, .int .i64 ro, .int .i64 rn, .slice ra rl rc] 37) = wA at *
  have k0 := HBO.out.k.c0
  clear a0
  go_wp2_with fail
  refine (cresume_any wA HKA.out.kq.pk).mono ?_
  rintro e w1 ⟨rfl, P1, hp⟩
  have HB1 := Lib.hid (HBO.out.pk hp fun x h1 h2 => (HBX.out x h1 h2).1)
  have HP := Lib.hid hp
  have k1 := HB1.out.k.c1
  have HDK := Lib.hid (kq_p HKA.out.kq hp).2.2.1
  clear hp k0
  go_wp2_with fail
  refine (eresume_any (by omega) w1 HDK.out).mono ?_
  rintro e w2 ⟨rfl, D1, hd⟩
  have HFIN := Lib.hid (kq_d HKA.out.kq HP.out hd HO.out.resume)
  clear hd k1
  go_wp2
  go_ret
  exact ⟨rfl, P1, D1, HKA.out.trans HFIN.out⟩
set_option maxHeartbeats 8000000 in
theorem do_0 {W : World} {cb db : Nat} {P D : Nat → Prop} {n : Nat} {s : Cs} (kd : Int) (uk : ByteArray) (ux un : Int) (ut : ByteArray) (ro rn : Int) (ra : Option Addr) (rl rc : Nat) (rus : List Up) (hk : ¬ (1 ≤ kd ∧ kd ≤ 5)) (w : World) (hok : okA (kd, (uk, ux, un, ut), ⟨ro, rn, ra, rl, rc, rus⟩)) (h : Kq W w cb db P D n s) :
    Calls Tryd.prog 12 #[.agg #[.pointer (some ⟨cb, 0, none⟩), .pointer (some ⟨db, 0, none⟩)], .agg #[.int .i64 kd, .string uk, .int .i64 ux, .int .i64 un, .string ut, .int .i64 ro, .int .i64 rn, .slice ra rl rc]] w fun e w' => e = .returned (.bool true) ∧ ∃ P' D', KqW W w w' cb db P D P' D' (n + 1) (s.act (kd, (uk, ux, un, ut), ⟨ro, rn, ra, rl, rc, rus⟩)) := by
  have hA := Joins.below_alloc2 w (.cells #[.pointer (some ⟨cb, 0, none⟩), .pointer (some ⟨db, 0, none⟩)] 27) (.cells #[.int .i64 kd, .string uk, .int .i64 ux, .int .i64 un, .string ut, .int .i64 ro, .int .i64 rn, .slice ra rl rc] 37)
  have HKA := Lib.hid (kqW_no h hA)
  have hab : Ab ((w.alloc (.cells #[.pointer (some ⟨cb, 0, none⟩), .pointer (some ⟨db, 0, none⟩)] 27)).alloc (.cells #[.int .i64 kd, .string uk, .int .i64 ux, .int .i64 un, .string ut, .int .i64 ro, .int .i64 rn, .slice ra rl rc] 37)) (w.heap.size + 1) kd uk ux un ut ro rn ra rl rc := by have := heap_alloc_new (w.alloc (.cells #[.pointer (some ⟨cb, 0, none⟩), .pointer (some ⟨db, 0, none⟩)] 27)) (.cells #[.int .i64 kd, .string uk, .int .i64 ux, .int .i64 un, .string ut, .int .i64 ro, .int .i64 rn, .slice ra rl rc] 37); rw [show (w.alloc (.cells #[.pointer (some ⟨cb, 0, none⟩), .pointer (some ⟨db, 0, none⟩)] 27)).heap.size = w.heap.size + 1 by simp] at this; exact this
  have a0 := hab.c0
  have HO := Lib.hid (h.ok.act hok)
  have e1 : ((kd : Int) == 1) = false := beq_false_of_ne (by omega)
  have e2 : ((kd : Int) == 2) = false := beq_false_of_ne (by omega)
  have e3 : ((kd : Int) == 3) = false := beq_false_of_ne (by omega)
  have e4 : ((kd : Int) == 4) = false := beq_false_of_ne (by omega)
  have e5 : ((kd : Int) == 5) = false := beq_false_of_ne (by omega)
  have hact : s.act (kd, (uk, ux, un, ut), ⟨ro, rn, ra, rl, rc, rus⟩) = s := by unfold Cs.act; rw [if_neg (show ¬ kd = 1 by omega), if_neg (show ¬ kd = 2 by omega), if_neg (show ¬ kd = 3 by omega), if_neg (show ¬ kd = 4 by omega), if_neg (show ¬ kd = 5 by omega)]
  rw [hact] at HO ⊢
  clear hact hA hab h hok hk
  go_enter Tryd.func12, Tryd.ntmps12
  go_wp2
  go_ret
  exact ⟨rfl, P, D, ⟨HKA.out.kq.mono HO.out, HKA.out.lv, HKA.out.new⟩⟩
set_option maxHeartbeats 8000000 in
theorem do_5n {W : World} {cb db : Nat} {P D : Nat → Prop} {n : Nat} {s : Cs} (kd : Int) (uk : ByteArray) (ux un : Int) (ut : ByteArray) (ro rn : Int) (ra : Option Addr) (rl rc : Nat) (rus : List Up) (hk : kd = 5) (hkk : ¬ s.k < s.uss.length) (w : World) (hok : okA (kd, (uk, ux, un, ut), ⟨ro, rn, ra, rl, rc, rus⟩)) (h : Kq W w cb db P D n s) :
    Calls Tryd.prog 12 #[.agg #[.pointer (some ⟨cb, 0, none⟩), .pointer (some ⟨db, 0, none⟩)], .agg #[.int .i64 kd, .string uk, .int .i64 ux, .int .i64 un, .string ut, .int .i64 ro, .int .i64 rn, .slice ra rl rc]] w fun e w' => e = .returned (.bool true) ∧ ∃ P' D', KqW W w w' cb db P D P' D' (n + 1) (s.act (kd, (uk, ux, un, ut), ⟨ro, rn, ra, rl, rc, rus⟩)) := by
  have hA := Joins.below_alloc2 w (.cells #[.pointer (some ⟨cb, 0, none⟩), .pointer (some ⟨db, 0, none⟩)] 27) (.cells #[.int .i64 kd, .string uk, .int .i64 ux, .int .i64 un, .string ut, .int .i64 ro, .int .i64 rn, .slice ra rl rc] 37)
  have HKA := Lib.hid (kqW_no h hA)
  have hbo : Bo w ((w.alloc (.cells #[.pointer (some ⟨cb, 0, none⟩), .pointer (some ⟨db, 0, none⟩)] 27)).alloc (.cells #[.int .i64 kd, .string uk, .int .i64 ux, .int .i64 un, .string ut, .int .i64 ro, .int .i64 rn, .slice ra rl rc] 37)) cb db kd uk ux un ut ro rn ra rl rc := ⟨(show Kb (w.alloc (.cells #[.pointer (some ⟨cb, 0, none⟩), .pointer (some ⟨db, 0, none⟩)] 27)) w.heap.size cb db from heap_alloc_new w _).next (Joins.below_alloc1 _ _), by have := heap_alloc_new (w.alloc (.cells #[.pointer (some ⟨cb, 0, none⟩), .pointer (some ⟨db, 0, none⟩)] 27)) (.cells #[.int .i64 kd, .string uk, .int .i64 ux, .int .i64 un, .string ut, .int .i64 ro, .int .i64 rn, .slice ra rl rc] 37); rw [show (w.alloc (.cells #[.pointer (some ⟨cb, 0, none⟩), .pointer (some ⟨db, 0, none⟩)] 27)).heap.size = w.heap.size + 1 by simp] at this; exact this⟩
  have hBX : ∀ x, w.heap.size ≤ x → x < w.heap.size + 2 → ¬ P x ∧ ¬ D x := fun x hx _ => kq_boxes h x hx
  have HBX := Lib.hid hBX
  have a0 := hbo.a.c0
  have HBO := Lib.hid hbo
  have HA := Lib.hid hA
  have HOA := Lib.hid (h.ok.act hok)
  have e1 : ((kd : Int) == 1) = false := beq_false_of_ne (by omega)
  have e2 : ((kd : Int) == 2) = false := beq_false_of_ne (by omega)
  have e3 : ((kd : Int) == 3) = false := beq_false_of_ne (by omega)
  have e4 : ((kd : Int) == 4) = false := beq_false_of_ne (by omega)
  have e5 : ((kd : Int) == 5) = true := beq_iff_eq.2 hk
  have hact : s.act (kd, (uk, ux, un, ut), ⟨ro, rn, ra, rl, rc, rus⟩) = (if s.k < s.uss.length then s.take (s.o, ((s.k + 1 : Nat) : Int), s.uss.getD s.k []) else s) := by unfold Cs.act; rw [if_neg (show ¬ kd = 1 by omega), if_neg (show ¬ kd = 2 by omega), if_neg (show ¬ kd = 3 by omega), if_neg (show ¬ kd = 4 by omega), if_pos hk]
  rw [hact, if_neg hkk] at HOA
  rw [hact, if_neg hkk]
  obtain ⟨jb, FJ, M, ak, lk, ck, rk, ap, lp, cp, rp, ao, lo, co, hq, hD⟩ := HKA.out.kq.dk
  have hl0 : lp = 0 := by
    have h1 := hq.po.len
    have h2 := hq.pr.is.size
    rw [List.length_drop] at h1
    omega
  subst hl0
  have c5 := hq.c5
  have k1 := hbo.k.c1
  clear hact hA hbo hBX h hok hk hkk hq hD
  go_enter Tryd.func12, Tryd.ntmps12
  go_wp2
  go_ret
  exact ⟨rfl, P, D, ⟨HKA.out.kq.mono HOA.out, HKA.out.lv, HKA.out.new⟩⟩
set_option maxHeartbeats 8000000 in
theorem do_5y {W : World} {cb db : Nat} {P D : Nat → Prop} {n : Nat} {s : Cs} (kd : Int) (uk : ByteArray) (ux un : Int) (ut : ByteArray) (ro rn : Int) (ra : Option Addr) (rl rc : Nat) (rus : List Up) (hk : kd = 5) (hkk : s.k < s.uss.length) (hn : n ≤ 200) (w : World) (h : Kq W w cb db P D n s) :
    Calls Tryd.prog 12 #[.agg #[.pointer (some ⟨cb, 0, none⟩), .pointer (some ⟨db, 0, none⟩)], .agg #[.int .i64 kd, .string uk, .int .i64 ux, .int .i64 un, .string ut, .int .i64 ro, .int .i64 rn, .slice ra rl rc]] w fun e w' => e = .returned (.bool true) ∧ ∃ P' D', KqW W w w' cb db P D P' D' (n + 1) (s.act (kd, (uk, ux, un, ut), ⟨ro, rn, ra, rl, rc, rus⟩)) := by
  have hA := Joins.below_alloc2 w (.cells #[.pointer (some ⟨cb, 0, none⟩), .pointer (some ⟨db, 0, none⟩)] 27) (.cells #[.int .i64 kd, .string uk, .int .i64 ux, .int .i64 un, .string ut, .int .i64 ro, .int .i64 rn, .slice ra rl rc] 37)
  have HKA := Lib.hid (kqW_no h hA)
  have hbo : Bo w ((w.alloc (.cells #[.pointer (some ⟨cb, 0, none⟩), .pointer (some ⟨db, 0, none⟩)] 27)).alloc (.cells #[.int .i64 kd, .string uk, .int .i64 ux, .int .i64 un, .string ut, .int .i64 ro, .int .i64 rn, .slice ra rl rc] 37)) cb db kd uk ux un ut ro rn ra rl rc := ⟨(show Kb (w.alloc (.cells #[.pointer (some ⟨cb, 0, none⟩), .pointer (some ⟨db, 0, none⟩)] 27)) w.heap.size cb db from heap_alloc_new w _).next (Joins.below_alloc1 _ _), by have := heap_alloc_new (w.alloc (.cells #[.pointer (some ⟨cb, 0, none⟩), .pointer (some ⟨db, 0, none⟩)] 27)) (.cells #[.int .i64 kd, .string uk, .int .i64 ux, .int .i64 un, .string ut, .int .i64 ro, .int .i64 rn, .slice ra rl rc] 37); rw [show (w.alloc (.cells #[.pointer (some ⟨cb, 0, none⟩), .pointer (some ⟨db, 0, none⟩)] 27)).heap.size = w.heap.size + 1 by simp] at this; exact this⟩
  have hBX : ∀ x, w.heap.size ≤ x → x < w.heap.size + 2 → ¬ P x ∧ ¬ D x := fun x hx _ => kq_boxes h x hx
  have HBX := Lib.hid hBX
  have a0 := hbo.a.c0
  have HBO := Lib.hid hbo
  have HA := Lib.hid hA
  have hok0 := h.ok
  have hlen := hok0.len
  have HO := Lib.hid hok0
  have e1 : ((kd : Int) == 1) = false := beq_false_of_ne (by omega)
  have e2 : ((kd : Int) == 2) = false := beq_false_of_ne (by omega)
  have e3 : ((kd : Int) == 3) = false := beq_false_of_ne (by omega)
  have e4 : ((kd : Int) == 4) = false := beq_false_of_ne (by omega)
  have e5 : ((kd : Int) == 5) = true := beq_iff_eq.2 hk
  have hact : s.act (kd, (uk, ux, un, ut), ⟨ro, rn, ra, rl, rc, rus⟩) = (if s.k < s.uss.length then s.take (s.o, ((s.k + 1 : Nat) : Int), s.uss.getD s.k []) else s) := by unfold Cs.act; rw [if_neg (show ¬ kd = 1 by omega), if_neg (show ¬ kd = 2 by omega), if_neg (show ¬ kd = 3 by omega), if_neg (show ¬ kd = 4 by omega), if_pos hk]
  rw [hact, if_pos hkk]
  obtain ⟨jb, FJ, M, ak, lk, ck, rk, ap, lp, cp, rp, ao, lo, co, hq, rfl⟩ := HKA.out.kq.dk
  obtain rfl : rk.length = lk := hq.kr.is.size
  obtain rfl : rp.length = lp := hq.pr.is.size
  have hpl := hq.po.len
  rw [List.length_drop] at hpl
  have h0 : 0 < rp.length := by omega
  have q9 : decide ((0 : Int) < (rp.length : Int)) = true := decide_eq_true (by omega)
  have q8 : (0 : Int) < (rp.length : Int) := by omega
  have hat := hq.po.at' 0 (by rw [List.length_drop]; omega)
  have hat3 : (s.uss.drop s.k).getD 0 [] = s.uss.getD s.k [] := by simp [List.getD_eq_getElem?_getD, List.getElem?_drop]
  rw [hat3, Nat.add_zero] at hat
  have hmem := rn_mem h0
  have hrr := hq.pr.is.each _ hmem
  have hrm := hq.pr.each _ hmem
  have c5 := hq.c5
  obtain ⟨g, off, e1', d0, d1, d2, _⟩ := rcells_of hq.pr.is (Below.refl _ _) h0
  subst e1'
  rw [Nat.zero_mul, Nat.add_zero] at d0 d1 d2
  have k1 := hbo.k.c1
  have HAPC := Lib.hid h.ap
  have HP0 : Hid (∀ x, P x → x < w.heap.size) := Lib.hid fun x hx => (h.pk.foot x hx).2
  have HD0 : Hid (∀ x, Df db FJ M x → x < w.heap.size) := Lib.hid fun x hx => h.dk.foot x hx
  generalize rp.getD 0 rn0 = r at *
  obtain ⟨qo, qn, qa, ql, qc, qus⟩ := r
  simp only at d0 d1 d2 hat hrm
  obtain ⟨hat1, hat2, hat4⟩ := hat
  rw [show ((s.o, ((s.k + 1 : Nat) : Int), s.uss.getD s.k []) : Cr) = (qo, qn, qus) by rw [hat1, hat2, hat4]]
  have HRR := Lib.hid hrr
  have HRM := Lib.hid hrm
  have HSLQ : Hid (Sl qus) := Lib.hid (by rw [hat4]; exact hok0.su _ (mem_getL hkk))
  have HQA := Lib.hid hq
  clear hact hA hbo hBX h hk hkk hq hpl hmem hrr hrm hok0 hat3 hat1 hat2 hat4
  go_enter Tryd.func12, Tryd.ntmps12
  go_upto_region 16 with fail
  have HKB0 := Lib.hid (HKA.out.trans (kqW_no HKA.out.kq (Joins.below_alloc1 _ (.cells #[.int .i64 qo, .int .i64 qn, .slice qa ql qc] 35))))
  have HBB : Hid (Bo w (((w.alloc (.cells #[.pointer (some ⟨cb, 0, none⟩), .pointer (some ⟨db, 0, none⟩)] 27)).alloc (.cells #[.int .i64 kd, .string uk, .int .i64 ux, .int .i64 un, .string ut, .int .i64 ro, .int .i64 rn, .slice ra rl rc] 37)).alloc (.cells #[.int .i64 qo, .int .i64 qn, .slice qa ql qc] 35)) cb db kd uk ux un ut ro rn ra rl rc) := Lib.hid ⟨HBO.out.k.next (Joins.below_alloc1 _ _), HBO.out.a.next (Joins.below_alloc1 _ _)⟩
  have HQB0 : Hid (Rb (((w.alloc (.cells #[.pointer (some ⟨cb, 0, none⟩), .pointer (some ⟨db, 0, none⟩)] 27)).alloc (.cells #[.int .i64 kd, .string uk, .int .i64 ux, .int .i64 un, .string ut, .int .i64 ro, .int .i64 rn, .slice ra rl rc] 37)).alloc (.cells #[.int .i64 qo, .int .i64 qn, .slice qa ql qc] 35)) (w.heap.size + 1 + 1) qo qn qa ql qc) := Lib.hid (by
    have := Rb.new ((w.alloc (.cells #[.pointer (some ⟨cb, 0, none⟩), .pointer (some ⟨db, 0, none⟩)] 27)).alloc (.cells #[.int .i64 kd, .string uk, .int .i64 ux, .int .i64 un, .string ut, .int .i64 ro, .int .i64 rn, .slice ra rl rc] 37)) qo qn qa ql qc
    simpa using this)
  have HRB0 := Lib.hid (HRR.out.below (Joins.below_alloc1 _ (.cells #[.int .i64 qo, .int .i64 qn, .slice qa ql qc] 35)))
  have HDB := Lib.hid (HQA.out.next (Joins.below_alloc1 _ (.cells #[.int .i64 qo, .int .i64 qn, .slice qa ql qc] 35)))
  generalize ((w.alloc (.cells #[.pointer (some ⟨cb, 0, none⟩), .pointer (some ⟨db, 0, none⟩)] 27)).alloc (.cells #[.int .i64 kd, .string uk, .int .i64 ux, .int .i64 un, .string ut, .int .i64 ro, .int .i64 rn, .slice ra rl rc] 37)).alloc (.cells #[.int .i64 qo, .int .i64 qn, .slice qa ql qc] 35) = wB at *
  generalize hgb : w.heap.size + 1 + 1 = gb at *
  have HGB := Lib.hid hgb
  clear a0 c5 d0 d1 d2 k1 hgb HKA HBO HRR HQA HA
  have hs0 : (wB.cell? ⟨w.heap.size, 0, none⟩ = some (.pointer (some ⟨cb, 0, none⟩)) ∧ wB.cell? ⟨w.heap.size, 1, none⟩ = some (.pointer (some ⟨db, 0, none⟩))) ∧ wB.cell? ⟨gb, 0, none⟩ = some (.int .i64 qo) ∧ wB.cell? ⟨gb, 1, none⟩ = some (.int .i64 qn) ∧ wB.cell? ⟨gb, 2, none⟩ = some (.slice qa ql qc) := ⟨⟨HBB.out.k.c0, HBB.out.k.c1⟩, (HQB0.out).c0, (HQB0.out).c1, (HQB0.out).c2⟩
  go_wp2_with fail
  refine wp_region_held_drew (S := fun w' => (w'.cell? ⟨w.heap.size, 0, none⟩ = some (.pointer (some ⟨cb, 0, none⟩)) ∧ w'.cell? ⟨w.heap.size, 1, none⟩ = some (.pointer (some ⟨db, 0, none⟩))) ∧ w'.cell? ⟨gb, 0, none⟩ = some (.int .i64 qo) ∧ w'.cell? ⟨gb, 1, none⟩ = some (.int .i64 qn) ∧ w'.cell? ⟨gb, 2, none⟩ = some (.slice qa ql qc)) (by kernel_rfl) ?_ (fun hH => ?_)
  · exact hs0
  refine tkH 0 ?_ ?_ ?_
  rotate_left
  · intro w h; try dsimp only at h
    obtain ⟨⟨q0, q1⟩, q2, q3, q4⟩ := h; go_simp; all_goals with_reducible rfl
  try simp only [pt]
  refine tkH 1 ?_ ?_ ?_
  rotate_left
  · intro w h; try dsimp only at h
    obtain ⟨⟨q0, q1⟩, q2, q3, q4⟩ := h; go_simp; all_goals with_reducible rfl
  try simp only [pt]
  refine tkH 2 ?_ ?_ ?_
  rotate_left
  · intro w h; try dsimp only at h
    obtain ⟨⟨q0, q1⟩, q2, q3, q4⟩ := h; go_simp; all_goals with_reducible rfl
  try simp only [pt]
  refine tkH 4 ?_ ?_ ?_
  rotate_left
  · intro w h; try dsimp only at h
    obtain ⟨⟨q0, q1⟩, q2, q3, q4⟩ := h; go_simp; all_goals with_reducible rfl
  try simp only [pt]
  refine tkH 5 ?_ ?_ ?_
  rotate_left
  · intro w h; try dsimp only at h
    obtain ⟨⟨q0, q1⟩, q2, q3, q4⟩ := h; go_simp; all_goals with_reducible rfl
  try simp only [pt]
  refine tkH 6 ?_ ?_ ?_
  rotate_left
  · intro w h; try dsimp only at h
    obtain ⟨⟨q0, q1⟩, q2, q3, q4⟩ := h; go_simp; all_goals with_reducible rfl
  try simp only [pt]
  refine wpAnyH_ready (rs := [3]) (by kernel_rfl) (by simp) ?_
  refine rdH (fun K hK => ?_) ?_
  · go_simp
    refine (ctake_any (by omega) ⟨qo, qn, qa, ql, qc, qus⟩ HSLQ.out.sm wB.drew (HRB0.out.below (Below.refl _ _).drew) (HKB0.out.kq.pk.asit rfl)).mono ?_
    rintro e w1 ⟨rfl, P1, hp0⟩
    have hp : PkW W.heap.size wB w1 cb P P1 (s.take (kR ⟨qo, qn, qa, ql, qc, qus⟩)) := hp0.un
    clear hp0
    have HB1 := Lib.hid (HBB.out.pk hp fun x h1 h2 => (HBX.out x h1 (by have := HGB.out; omega)).1)
    have HQB1 : Hid (Rb w1 gb qo qn qa ql qc) := Lib.hid ((hp.off HQB0.out.lt fun e => by have := (HP0.out gb e); have := HGB.out; omega).trans HQB0.out)
    have hs1 : (w1.cell? ⟨w.heap.size, 0, none⟩ = some (.pointer (some ⟨cb, 0, none⟩)) ∧ w1.cell? ⟨w.heap.size, 1, none⟩ = some (.pointer (some ⟨db, 0, none⟩))) ∧ w1.cell? ⟨gb, 0, none⟩ = some (.int .i64 qo) ∧ w1.cell? ⟨gb, 1, none⟩ = some (.int .i64 qn) ∧ w1.cell? ⟨gb, 2, none⟩ = some (.slice qa ql qc) := ⟨⟨HB1.out.k.c0, HB1.out.k.c1⟩, (HQB1.out).c0, (HQB1.out).c1, (HQB1.out).c2⟩
    have HD1 := Lib.hid (HDB.out.keep hp.lv.size fun x hx => hp.lv.block x (HDB.out.foot x hx) fun e => HAPC.out x e hx)
    have HR1 : Hid (Ru w1 ⟨qo, qn, qa, ql, qc, qus⟩) := Lib.hid ⟨isUs_keep HRB0.out.1 fun h0 g off e => hp.off (Rn.us_in HRB0.out h0 e) fun hg => HAPC.out g hg (.inl (HRM.out h0 g off e)), HRB0.out.2⟩
    have HP := Lib.hid hp
    clear hp
    go_wp2_with fail
    refine hK.out _ _ ?_ (fun hH => ?_)
    · exact hs1
    clear hK K
    try simp only [pt]
    refine wpAnyH_ready (rs := [7]) (by kernel_rfl) (by simp) ?_
    refine rdH (fun K hK => ?_) ?_
    · go_simp
      refine (dtake_any (by omega) (by omega) ⟨qo, qn, qa, ql, qc, qus⟩ HRM.out w1 HR1.out HD1.out).mono ?_
      rintro e w2 ⟨rfl, D1, hd⟩
      have HB2 := Lib.hid (HB1.out.dk hd fun x h1 h2 => (HBX.out x h1 (by have := HGB.out; omega)).2)
      have HQB2 : Hid (Rb w2 gb qo qn qa ql qc) := Lib.hid ((hd.lv.block _ HQB1.out.lt fun e => by have := HD0.out gb e.2; have := HGB.out; omega).trans HQB1.out)
      have hs2 : (w2.cell? ⟨w.heap.size, 0, none⟩ = some (.pointer (some ⟨cb, 0, none⟩)) ∧ w2.cell? ⟨w.heap.size, 1, none⟩ = some (.pointer (some ⟨db, 0, none⟩))) ∧ w2.cell? ⟨gb, 0, none⟩ = some (.int .i64 qo) ∧ w2.cell? ⟨gb, 1, none⟩ = some (.int .i64 qn) ∧ w2.cell? ⟨gb, 2, none⟩ = some (.slice qa ql qc) := ⟨⟨HB2.out.k.c0, HB2.out.k.c1⟩, (HQB2.out).c0, (HQB2.out).c1, (HQB2.out).c2⟩
      have HFIN := Lib.hid (kq_d HKB0.out.kq HP.out hd (HO.out.take HSLQ.out))
      clear hd
      go_wp2_with fail
      refine hK.out _ _ ?_ (fun hH => ?_)
      · exact hs2
      clear hK K
      try simp only [pt]
      refine tkH 8 ?_ ?_ ?_
      rotate_left
      · intro w h; try dsimp only at h
        obtain ⟨⟨q0, q1⟩, q2, q3, q4⟩ := h; go_simp; all_goals with_reducible rfl
      try simp only [pt]
      refine tkH 9 ?_ ?_ ?_
      rotate_left
      · intro w h; try dsimp only at h
        obtain ⟨⟨q0, q1⟩, q2, q3, q4⟩ := h; go_simp; all_goals with_reducible rfl
      try simp only [pt]
      refine wpAnyH_done (by kernel_rfl) ?_ _
      clear hs0 hs1 hs2
      go_wp2
      go_ret
      exact ⟨rfl, P1, D1, HKB0.out.trans HFIN.out⟩
    exact AllReadyH.nil
  exact AllReadyH.nil
theorem do_any {W : World} {cb db : Nat} {P D : Nat → Prop} {n : Nat} {s : Cs} (kd : Int) (uk : ByteArray) (ux un : Int) (ut : ByteArray) (ro rn : Int) (ra : Option Addr) (rl rc : Nat) (rus : List Up) (hn : n ≤ 200) (w : World) (hwd : X.Wd W) (hok : okA (kd, (uk, ux, un, ut), ⟨ro, rn, ra, rl, rc, rus⟩)) (hru : Ru w ⟨ro, rn, ra, rl, rc, rus⟩) (hlow : 0 < rl → ∀ g off, ra = some ⟨g, off, none⟩ → g < W.heap.size) (h : Kq W w cb db P D n s) :
    Calls Tryd.prog 12 #[.agg #[.pointer (some ⟨cb, 0, none⟩), .pointer (some ⟨db, 0, none⟩)], .agg #[.int .i64 kd, .string uk, .int .i64 ux, .int .i64 un, .string ut, .int .i64 ro, .int .i64 rn, .slice ra rl rc]] w fun e w' => e = .returned (.bool true) ∧ ∃ P' D', KqW W w w' cb db P D P' D' (n + 1) (s.act (kd, (uk, ux, un, ut), ⟨ro, rn, ra, rl, rc, rus⟩)) := by
  by_cases k1 : kd = 1
  · exact do_1 kd uk ux un ut ro rn ra rl rc rus k1 w hwd hok hru hlow h
  by_cases k2 : kd = 2
  · exact do_2 kd uk ux un ut ro rn ra rl rc rus k2 hn w hwd hok hru hlow h
  by_cases k3 : kd = 3
  · exact do_3 kd uk ux un ut ro rn ra rl rc rus k3 hn w hwd hok hru hlow h
  by_cases k4 : kd = 4
  · exact do_4 kd uk ux un ut ro rn ra rl rc rus k4 hn w hwd hok hru hlow h
  by_cases k5 : kd = 5
  · by_cases hkk : s.k < s.uss.length
    · exact do_5y kd uk ux un ut ro rn ra rl rc rus k5 hkk hn w h
    · exact do_5n kd uk ux un ut ro rn ra rl rc rus k5 hkk w hok h
  exact do_0 kd uk ux un ut ro rn ra rl rc rus (by omega) w hok h
end Go.Proofs.YtbbgibekplfacaaDoor
