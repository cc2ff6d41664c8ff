/- A value laid in a block of the law's own, beside calls; rows that are held beside it. -/
import Derived.Test.YtbbgibekplfacaaDoorNH
namespace Go.Proofs.YtbbgibekplfacaaDoor
open Go Go.RowKit
set_option maxRecDepth 20000
/-- A told row of updates, held. -/
structure Ho (w : World) (P : Nat → Prop) (g : Nat) (us : List Up) : Prop where
  rw : Rw w g us
  ng : ¬ P g
/-- A block gv of the law's own in which a value is to be laid. -/
structure Kz (W w : World) (g cb db : Nat) (P D : Nat → Prop) (s sd : Cs) (gv : Nat) : Prop where
  ka : Ka W w g cb db P D s sd
  vb : Y.Vb w gv (0, 0, ⟨#[]⟩)
  np : ¬ P gv
  nd : ¬ D gv
  ng : g ≠ gv
  lo : W.heap.size ≤ gv
section
variable {W w w' w0 : World} {B b g cb db gv : Nat} {P D P' D' : Nat → Prop} {n m : Nat} {s s' sd : Cs} {xs : List Rn} {us : List Up}
theorem Kz.make (h : Ka W w g cb db P D s sd) : Kz W (w.alloc (.cells #[.int .i64 0, .int .i64 0, .string ⟨#[]⟩] 49)) g cb db P D s sd w.heap.size :=
  ⟨h.next (Joins.below_alloc1 _ _), heap_alloc_new w _, fun e => by have := (h.pk.foot _ e).2; omega, fun e => by have := h.dk.foot _ e; omega, fun e => by have := h.kb.lt; omega, h.bel.size⟩
theorem Kz.next (h : Kz W w g cb db P D s sd gv) (hb : Below w.heap.size w w') : Kz W w' g cb db P D s sd gv := ⟨h.ka.next hb, h.vb.kept hb rfl, h.np, h.nd, h.ng, h.lo⟩
theorem lv_set3 (w : World) (gv : Nat) (a b c : Value) : Lv w (((w.setCell ⟨gv, 0, none⟩ a).setCell ⟨gv, 1, none⟩ b).setCell ⟨gv, 2, none⟩ c) (fun x => x = gv) :=
  ((Lv.set (F := fun x => x = gv) rfl 0 a).trans (Lv.set (F := fun x => x = gv) rfl 1 b)).trans (Lv.set (F := fun x => x = gv) rfl 2 c)
theorem Kz.store (h : Kz W w g cb db P D s sd gv) (v1 v2 : Int) (v3 : ByteArray) : Ka W (((w.setCell ⟨gv, 0, none⟩ (.int .i64 v1)).setCell ⟨gv, 1, none⟩ (.int .i64 v2)).setCell ⟨gv, 2, none⟩ (.string v3)) g cb db P D s sd ∧ Hv (((w.setCell ⟨gv, 0, none⟩ (.int .i64 v1)).setCell ⟨gv, 1, none⟩ (.int .i64 v2)).setCell ⟨gv, 2, none⟩ (.string v3)) P gv (v1, v2, v3) := by
  have hl := lv_set3 w gv (.int .i64 v1) (.int .i64 v2) (.string v3)
  refine ⟨⟨hl.below h.ka.bel (fun k hk => by rw [hk]; exact h.lo) h.ka.bel.size, h.ka.pk.other hl fun x hx e => h.np (by rw [← e]; exact hx), h.ka.dk.other hl fun x hx e => h.nd (by rw [← e]; exact hx), h.ka.ap, h.ka.kb.same (hl.block g h.ka.kb.lt h.ng), h.ka.kf⟩, Y.Vb.set h.vb v1 v2 v3, h.np⟩
theorem Hx.fence (h : Hx w P g xs) (o : Obj) : Hx (w.alloc o) (fun x => P x ∨ x = w.heap.size) g xs :=
  have h' := h.next (Joins.below_alloc1 w o)
  ⟨h'.rz, fun e => e.elim h.ng fun e => by have := h.rz.lt; omega, fun r hr => by
    obtain ⟨c, e, hw, hc, e1, e2⟩ := h.own r hr
    exact ⟨c, e, ((Joins.below_alloc1 w o).block c hw.lt).trans hw, fun x => x.elim hc fun x => by have := hw.lt; omega, e1, e2⟩⟩
theorem Hx.own' (h : Hx w (fun x => P x ∨ x = gv) g xs) (hl : Lv w w' (fun x => x = gv)) : Hx w' P g xs :=
  ⟨(hl.block g h.rz.lt fun e => h.ng (.inr e)).trans h.rz, fun e => h.ng (.inl e), fun r hr => by
    obtain ⟨c, e, hw, hc, e1, e2⟩ := h.own r hr
    exact ⟨c, e, (hl.block c hw.lt fun e => hc (.inr e)).trans hw, fun e => hc (.inl e), e1, e2⟩⟩
theorem Ho.next (h : Ho w P g us) (hb : Below w.heap.size w w') : Ho w' P g us := ⟨(hb.block g h.rw.lt).trans h.rw, h.ng⟩
theorem Ho.step (h : Ho w P g us) (hp : PkW B w w' b P P' s') : Ho w' P' g us := ⟨(hp.off h.rw.lt h.ng).trans h.rw, hp.not h.rw.lt h.ng⟩
theorem Ho.new (hp : Pk B w0 cb P s) (hr : Rw w g us) (hg : w0.heap.size ≤ g) : Ho w P g us := ⟨hr, fun e => by have := (hp.foot g e).2; omega⟩
theorem Ho.fence (h : Ho w P g us) (o : Obj) : Ho (w.alloc o) (fun x => P x ∨ x = w.heap.size) g us := ⟨((Joins.below_alloc1 w o).block g h.rw.lt).trans h.rw, fun e => e.elim h.ng fun e => by have := h.rw.lt; omega⟩
theorem Ho.own' (h : Ho w (fun x => P x ∨ x = gv) g us) (hl : Lv w w' (fun x => x = gv)) : Ho w' P g us := ⟨(hl.block g h.rw.lt fun e => h.ng (.inr e)).trans h.rw, fun e => h.ng (.inl e)⟩
end
end Go.Proofs.YtbbgibekplfacaaDoor
