/- Rows whose keys are stored anew (ClientWaits): what is held beside them stays. -/
import Derived.Test.YtbbgibekplfacaaDoorNG
namespace Go.Proofs.YtbbgibekplfacaaDoor
open Go Go.RowKit
set_option maxRecDepth 20000
/-- A row of n updates, whatever they are. -/
def Rc (w : World) (g n : Nat) : Prop := ∃ c : Array Value, w.heap[g]? = some (.cells c 32 (0, 0)) ∧ n * 4 ≤ c.size
section
variable {W w w1 w' : World} {B b g cb db gk gp gi ga gq Z : Nat} {P D P' D' Q F : Nat → Prop} {n i : Nat} {s s' sd : Cs} {xs ys xk xp xq : List Rn} {us : List Up} {ro rn : Int} {a : Option Addr} {rl rc : Nat}
theorem Rc.lt (h : Rc w g n) : g < w.heap.size := by
  obtain ⟨c, h, _⟩ := h
  exact (Array.getElem?_eq_some_iff.1 h).1
theorem Rc.f0 (h : Rc w g n) (i : Nat) : w.frozen? ⟨g, i, none⟩ = false := by
  obtain ⟨c, h, _⟩ := h
  simp [World.frozen?, h]
theorem Rc.key (h : Rc w g n) (hi : i < n) : ∃ v, w.cell? ⟨g, i * 4, none⟩ = some v := by
  obtain ⟨c, h, hc⟩ := h
  have hl : i * 4 < c.size := by omega
  exact ⟨c[i * 4], cell_at h (i * 4) _ (Array.getElem?_eq_getElem hl)⟩
theorem Rc.keep (h : Rc w g n) (e : w'.heap[g]? = w.heap[g]?) : Rc w' g n := by
  obtain ⟨c, h, hc⟩ := h
  exact ⟨c, e.trans h, hc⟩
theorem Rc.set (h : Rc w g n) (i : Nat) (v : Value) : Rc (w.setCell ⟨g, i, none⟩ v) g n := by
  obtain ⟨c, h, hc⟩ := h
  exact ⟨c.setIfInBounds i v, by simp [World.setCell, Array.getElem?_modify, h], by simpa using hc⟩
theorem Rw.toRc (h : Rw w g us) : Rc w g us.length := ⟨_, h, by rw [List.size_toArray, flU_len]; exact Nat.le_refl _⟩
theorem RowU.toRc {c : Nat} (h : RowU B w (.slice a n c) us) (hn : n = us.length) (h0 : 0 < n) : ∃ g, a = some ⟨g, 0, none⟩ ∧ B ≤ g ∧ Rc w g n := by
  subst hn
  rcases h.2 with ⟨e, h1⟩ | ⟨g, cap, cur, e, hB, hh, hc, hz, _⟩
  · omega
  · injection e with e1 e2 e3
    exact ⟨g, e1, hB, _, hh, by first | omega | (simp; omega)⟩
theorem Rc.rb (h : Rc w ga n) (hb : Rb w gi ro rn a rl rc) : gi ≠ ga := by
  rintro rfl
  obtain ⟨c, h, _⟩ := h
  have h1 := h.symm.trans hb
  injection h1 with h1
  injection h1 with _ h1 _
  exact absurd h1 (by decide)
theorem Rc.rz (h : Rc w ga n) (hk : Rz w gk xs) : gk ≠ ga := by
  rintro rfl
  obtain ⟨c, h, _⟩ := h
  have h1 := h.symm.trans hk
  injection h1 with h1
  injection h1 with _ h1 _
  exact absurd h1 (by decide)
/-- Blocks of the law's own are written. -/
theorem Ka.own (h : Ka W w g cb db P D s sd) (hl : Lv w w' F) (hF : ∀ x, F x → W.heap.size ≤ x ∧ ¬ P x ∧ ¬ D x ∧ g ≠ x) : Ka W w' g cb db P D s sd :=
  ⟨hl.below h.bel (fun k hk => (hF k hk).1) h.bel.size, h.pk.other hl fun x hx hy => (hF x hy).2.1 hx, h.dk.other hl fun x hx hy => (hF x hy).2.2.1 hx, h.ap, h.kb.same (hl.block g h.kb.lt fun e => (hF g e).2.2.2 rfl), h.kf⟩
theorem Hx.keep (h : Hx w P g xs) (hl : Lv w w' F) (hF : ∀ x, F x → P x) (hP : ∀ x, x < w.heap.size → Q x → P x) : Hx w' Q g xs :=
  ⟨(hl.block g h.rz.lt fun e => h.ng (hF g e)).trans h.rz, fun e => h.ng (hP g h.rz.lt e), fun r hr => by
    obtain ⟨c, e, hw, hc, e1, e2⟩ := h.own r hr
    exact ⟨c, e, (hl.block c hw.lt fun e => hc (hF c e)).trans hw, fun e => hc (hP c hw.lt e), e1, e2⟩⟩
theorem rb_grown {v : Value} {l : List Up} (h : Rb w gi ro rn a rl rc) (hr : RowU B w v l) (hg : w.grownBy w' v.ownBlock) : Rb w' gi ro rn a rl rc := h.kept hg fun e => by
  obtain ⟨_, cur, hc⟩ := hr.typ gi e.symm
  have h1 := hc.symm.trans h
  injection h1 with h1
  injection h1 with _ h1 _
  exact absurd h1 (by decide)
theorem gr_sl {us : List Up} (h : ¬ Y.gR us) : Sl us := by
  unfold Y.gR gAll at h
  refine ⟨by omega, fun u hu => ?_⟩
  obtain ⟨i, hi, rfl⟩ := List.mem_iff_getElem.1 hu
  have h2 : ¬ gU (us.getD i up0) := fun hx => h (.inr (.inr ⟨i, hi, hx⟩))
  have e : us.getD i up0 = us[i] := by simp [List.getD_eq_getElem?_getD, hi]
  rw [e] at h2
  unfold gU at h2
  exact ⟨by omega, by show us[i].2.2.2.size ≤ 100000; omega⟩
/-- .. and the row ga, made since. -/
theorem Hx.beside (h : Hx w P g xs) (hb : Below w.heap.size w w') (hg : w.heap.size ≤ ga) : Hx w' (fun x => P x ∨ x = ga) g xs :=
  h.keep (F := fun _ => False) (Lv.ofBelow hb _) (fun _ e => e.elim) fun x hx e => e.elim id fun e => by omega
theorem Hx.stepF (h : Hx w (fun x => P x ∨ x = ga) g xs) (hp : PkW B w w' b P P' s') : Hx w' (fun x => P' x ∨ x = ga) g xs :=
  h.keep hp.lv (fun _ e => .inl e) fun x hx e => e.elim (fun e => (hp.new x e).elim .inl fun e => by omega) .inr
theorem Hx.fenceZ (h : Hx w (fun x => P x ∨ x = ga) g xs) (hb : Below w.heap.size w w') : Hx w' (fun x => P x ∨ w.heap.size ≤ x) g xs :=
  h.keep (F := fun _ => False) (Lv.ofBelow hb _) (fun _ e => e.elim) fun x hx e => e.elim .inl fun e => by omega
theorem Hx.open (h : Hx w (fun x => P x ∨ Z ≤ x) g xs) : Hx w P g xs := h.keep (F := fun _ => False) (Lv.ofBelow (Below.refl _ _) _) (fun _ e => e.elim) fun _ _ e => .inl e
theorem Hx.grown (h : Hx w P g xs) (hk : Rz w gk ys) (hne : g ≠ gk) (hg : w.grownBy w' (some gk)) : Hx w' P g xs :=
  ⟨(hg.block g h.rz.lt fun e => hne (Option.some.inj e)).trans h.rz, h.ng, fun r hr => by
    obtain ⟨c, e, hw, hc, e1, e2⟩ := h.own r hr
    exact ⟨c, e, hw.kept hg fun e => (hw.toRc.rz hk) (Option.some.inj e).symm, hc, e1, e2⟩⟩
/-- The copy of the round that is given (box gi, row ga), beside what is held. -/
structure Kw (W w : World) (g cb db : Nat) (P D : Nat → Prop) (s sd : Cs) (gk : Nat) (xk : List Rn) (gp : Nat) (xp : List Rn) (gi : Nat) (ro rn : Int) (a : Option Addr) (rl rc ga : Nat) : Prop where
  ka : Ka W w g cb db P D s sd
  xk : Hx w (fun x => P x ∨ x = ga) gk xk
  xp : Hx w (fun x => P x ∨ x = ga) gp xp
  box : Rb w gi ro rn a rl rc
  npi : ¬ P gi
  row : 0 < rl → a = some ⟨ga, 0, none⟩ ∧ Rc w ga rl
  np : W.heap.size ≤ ga ∧ ¬ P ga ∧ ¬ D ga ∧ g ≠ ga
/-- What is made since, and written since. -/
theorem Hx.since (h : Hx w P g xs) (hb : Below w.heap.size w w1) (hl : Lv w1 w' F) (hF : ∀ x, F x → w.heap.size ≤ x) (hQ : ∀ x, Q x → P x ∨ w.heap.size ≤ x) : Hx w' Q g xs :=
  (h.keep (F := fun _ => False) (Q := fun x => P x ∨ w.heap.size ≤ x) (Lv.ofBelow hb _) (fun _ e => e.elim) fun x hx e => e.elim id fun e => by omega).keep hl (fun x e => .inr (hF x e)) fun x _ e => hQ x e
theorem Hx.each_grown (h : Hx w P g xs) (hg : w.grownBy w' (some g)) : ∀ r ∈ xs, Ru w' r := fun r hr => by
  obtain ⟨c, e, hw, hc, e1, e2⟩ := h.own r hr
  exact Own.ru (B := 0) ⟨c, e, hw.kept hg fun e => (hw.toRc.rz h.rz) (Option.some.inj e).symm, Nat.zero_le _, e1, e2⟩
theorem kw_make {c : Nat} (h : Ka W w g cb db P D s sd) (hk : Hx w P gk xk) (hp : Hx w P gp xp) (hb : Below w.heap.size w w1) (hz : Rb w1 gi 0 0 none 0 0) (hgi : w.heap.size ≤ gi) (hrow : RowU w.heap.size w1 (.slice a rl c) us) (hn : rl = us.length) (ro rn : Int) :
    ∃ ga, Kw W (((w1.setCell ⟨gi, 0, none⟩ (.int .i64 ro)).setCell ⟨gi, 1, none⟩ (.int .i64 rn)).setCell ⟨gi, 2, none⟩ (.slice a rl c)) g cb db P D s sd gk xk gp xp gi ro rn a rl c ga ∧ ga < (((w1.setCell ⟨gi, 0, none⟩ (.int .i64 ro)).setCell ⟨gi, 1, none⟩ (.int .i64 rn)).setCell ⟨gi, 2, none⟩ (.slice a rl c)).heap.size ∧ Ru (((w1.setCell ⟨gi, 0, none⟩ (.int .i64 ro)).setCell ⟨gi, 1, none⟩ (.int .i64 rn)).setCell ⟨gi, 2, none⟩ (.slice a rl c)) ⟨ro, rn, a, rl, c, us⟩ := by
  have hl : Lv w1 (((w1.setCell ⟨gi, 0, none⟩ (.int .i64 ro)).setCell ⟨gi, 1, none⟩ (.int .i64 rn)).setCell ⟨gi, 2, none⟩ (.slice a rl c)) (fun x => x = gi) := lv_set3 _ _ _ _ _
  have hbox := ((hz.set0 ro).set1 rn).set2 a rl c
  have hlt := hbox.lt
  generalize ((w1.setCell ⟨gi, 0, none⟩ (.int .i64 ro)).setCell ⟨gi, 1, none⟩ (.int .i64 rn)).setCell ⟨gi, 2, none⟩ (.slice a rl c) = w2 at *
  have hnew : ∀ x, w.heap.size ≤ x → W.heap.size ≤ x ∧ ¬ P x ∧ ¬ D x ∧ g ≠ x := fun x hx => ⟨Nat.le_trans h.bel.size hx, fun e => by have := (h.pk.foot x e).2; omega, fun e => by have := h.dk.foot x e; omega, fun e => by have := h.kb.lt; omega⟩
  have hka := (h.next hb).own hl fun x e => by subst e; exact hnew x hgi
  obtain ⟨hi, hc, hna⟩ := hrow.isU hn
  have hF : ∀ x, x = gi → w.heap.size ≤ x := fun x e => by omega
  by_cases h0 : 0 < rl
  · obtain ⟨ga, e, hB, hr⟩ := hrow.toRc hn h0
    have hne := hr.rb hz
    have hs := hl.block ga hr.lt (Ne.symm hne)
    have hQ : ∀ x, (P x ∨ x = ga) → P x ∨ w.heap.size ≤ x := fun x e => e.imp id fun e => by omega
    refine ⟨ga, ⟨hka, hk.since hb hl hF hQ, hp.since hb hl hF hQ, hbox, (hnew gi hgi).2.1, fun _ => ⟨e, hr.keep hs⟩, hnew ga hB⟩, Nat.lt_of_lt_of_le hr.lt hl.size, isUs_keep hi fun _ g' off e' => ?_, hc, hna⟩
    rw [e] at e'
    injection e' with e'
    injection e' with e' _
    rw [← e']
    exact hs
  · have hQ : ∀ x, (P x ∨ x = gi) → P x ∨ w.heap.size ≤ x := fun x e => e.imp id fun e => by omega
    exact ⟨gi, ⟨hka, hk.since hb hl hF hQ, hp.since hb hl hF hQ, hbox, (hnew gi hgi).2.1, fun h => absurd h h0, hnew gi hgi⟩, hlt, isUs_keep hi fun h => absurd h h0, hc, hna⟩
theorem Kw.next (h : Kw W w g cb db P D s sd gk xk gp xp gi ro rn a rl rc ga) (hb : Below w.heap.size w w') : Kw W w' g cb db P D s sd gk xk gp xp gi ro rn a rl rc ga :=
  ⟨h.ka.next hb, h.xk.next hb, h.xp.next hb, h.box.next hb, h.npi, fun h0 => ⟨(h.row h0).1, (h.row h0).2.keep (hb.block ga (h.row h0).2.lt)⟩, h.np⟩
theorem Kw.step (h : Kw W w g cb db P D s sd gk xk gp xp gi ro rn a rl rc ga) (hl : ga < w.heap.size) (hp : PkW W.heap.size w w' cb P P' s') : Kw W w' g cb db P' D s' sd gk xk gp xp gi ro rn a rl rc ga :=
  ⟨h.ka.step hp, h.xk.stepF hp, h.xp.stepF hp, (hp.off h.box.lt h.npi).trans h.box, hp.not h.box.lt h.npi, fun h0 => ⟨(h.row h0).1, (h.row h0).2.keep (hp.off hl h.np.2.1)⟩, h.np.1, hp.not hl h.np.2.1, h.np.2.2⟩
theorem Kw.set (h : Kw W w g cb db P D s sd gk xk gp xp gi ro rn a rl rc ga) (h0 : 0 < rl) (i : Nat) (v : Value) : Kw W (w.setCell ⟨ga, i, none⟩ v) g cb db P D s sd gk xk gp xp gi ro rn a rl rc ga := by
  have hl : Lv w (w.setCell ⟨ga, i, none⟩ v) (fun x => x = ga) := Lv.set (F := fun x => x = ga) rfl i v
  have hr := (h.row h0).2
  exact ⟨h.ka.own hl fun x e => by subst e; exact h.np, h.xk.keep hl (fun _ e => .inr e) fun _ _ e => e, h.xp.keep hl (fun _ e => .inr e) fun _ _ e => e, (hl.block gi h.box.lt (hr.rb h.box)).trans h.box, h.npi, fun _ => ⟨(h.row h0).1, hr.set i v⟩, h.np⟩
/-- What was known was told anew behind Z: its rows are written, what is held beside it stays. -/
structure Kv (W w : World) (g cb db : Nat) (P D : Nat → Prop) (s sd : Cs) (gk : Nat) (xk : List Rn) (gp : Nat) (xp : List Rn) (Z gq : Nat) (xq : List Rn) : Prop where
  ka : Ka W w g cb db P D s sd
  xk : Hx w (fun x => P x ∨ Z ≤ x) gk xk
  xp : Hx w (fun x => P x ∨ Z ≤ x) gp xp
  fz : ∀ x, Z ≤ x → W.heap.size ≤ x ∧ ¬ P x ∧ ¬ D x ∧ g ≠ x
  rz : Rz w gq xq
  each : ∀ r ∈ xq, ∃ b, r.a = some ⟨b, 0, none⟩ ∧ Z ≤ b ∧ Rc w b r.len
theorem Kv.start (h : Kw W w g cb db P D s sd gk xk gp xp gi ro rn a rl rc ga) (hb : Below w.heap.size w w') (hrz : Rz w' gq xq) (how : ∀ r ∈ xq, Own w.heap.size w' r) : Kv W w' g cb db P D s sd gk xk gp xp w.heap.size gq xq :=
  ⟨h.ka.next hb, h.xk.fenceZ hb, h.xp.fenceZ hb, fun x hx => ⟨Nat.le_trans h.ka.bel.size hx, fun e => by have := (h.ka.pk.foot x e).2; omega, fun e => by have := h.ka.dk.foot x e; omega, fun e => by have := h.ka.kb.lt; omega⟩, hrz, fun r hr => by
    obtain ⟨c, e, hw, hc, e1, _⟩ := how r hr
    exact ⟨c, e, hc, by rw [e1]; exact hw.toRc⟩⟩
theorem Kv.set {c m : Nat} (h : Kv W w g cb db P D s sd gk xk gp xp Z gq xq) (hc : Z ≤ c) (hr : Rc w c m) (i : Nat) (v : Value) : Kv W (w.setCell ⟨c, i, none⟩ v) g cb db P D s sd gk xk gp xp Z gq xq := by
  have hl : Lv w (w.setCell ⟨c, i, none⟩ v) (fun x => x = c) := Lv.set (F := fun x => x = c) rfl i v
  refine ⟨h.ka.own hl fun x e => by subst e; exact h.fz x hc, h.xk.keep hl (fun x e => .inr (by omega)) fun _ _ e => e, h.xp.keep hl (fun x e => .inr (by omega)) fun _ _ e => e, h.fz, (hl.block gq h.rz.lt (hr.rz h.rz)).trans h.rz, fun r hx => ?_⟩
  obtain ⟨b, e, hb, hw⟩ := h.each r hx
  refine ⟨b, e, hb, ?_⟩
  by_cases hbc : b = c
  · subst hbc; exact hw.set i v
  · exact hw.keep (hl.block b hw.lt hbc)
theorem Kv.next (h : Kv W w g cb db P D s sd gk xk gp xp Z gq xq) (hb : Below w.heap.size w w') : Kv W w' g cb db P D s sd gk xk gp xp Z gq xq :=
  ⟨h.ka.next hb, h.xk.next hb, h.xp.next hb, h.fz, h.rz.next hb, fun r hr => by
    obtain ⟨c, e, hc, hw⟩ := h.each r hr
    exact ⟨c, e, hc, hw.keep (hb.block c hw.lt)⟩⟩
theorem Kv.rest (h : Kv W w g cb db P D s sd gk xk gp xp Z gq xq) : Ka W w g cb db P D s sd ∧ Hx w P gk xk ∧ Hx w P gp xp := ⟨h.ka, h.xk.open, h.xp.open⟩
end
end Go.Proofs.YtbbgibekplfacaaDoor
