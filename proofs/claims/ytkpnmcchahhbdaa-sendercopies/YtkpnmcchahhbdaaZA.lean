/- alike. -/
import Derived.Test.YtkpnmcchahhbdaaZ9
namespace Go.Proofs.Ytkpnmcchahhbdaa
open Go Go.RowKit
set_option maxRecDepth 20000
theorem eq_yes (s : ByteArray) : (s.toList == s.toList) = true := by simp
/-- How it stands within alike, before the piece i. -/
structure Al (w wr : World) (k : Nat) (ds : List ByteArray) (a : Option Addr) (c : Nat) (aw : Option Addr) (cw : Nat) (i : Nat) : Prop where
  bel : Below w.heap.size w wr
  own : ∃ xs, wr.ownsRow w.heap.size 46 2 (.slice a ds.length c) ds.length xs ∧ ∀ j, i * 2 ≤ j → xs[j]? = (flP k ds)[j]?
  want : RowS w.heap.size wr (.slice aw ds.length cw) ds
section
variable {w wr wr' : World} {k : Nat} {ds : List ByteArray} {a aw : Option Addr} {c cw i : Nat}
theorem Al.next (h : Al w wr k ds a c aw cw i) (hb : Below wr.heap.size wr wr') : Al w wr' k ds a c aw cw i := by
  obtain ⟨xs, h1, h2⟩ := h.own
  exact ⟨Below.next h.bel hb, ⟨xs, World.ownsRow.kept h1 (grownOf none hb) (Classical.em _), h2⟩, h.want.below hb⟩
theorem Al.cells (h : Al w wr k ds a c aw cw i) (hi : i < ds.length) : ∃ g, a = some ⟨g, 0, none⟩ ∧ wr.cell? ⟨g, i * 2, none⟩ = some (.int .i64 ((k + i + 1 : Nat) : Int)) ∧ wr.cell? ⟨g, i * 2 + 1, none⟩ = some (.string (ds.getD i emp)) ∧ (∀ j, wr.frozen? ⟨g, j, none⟩ = false) ∧ ∃ gw off, aw = some ⟨gw, off, none⟩ ∧ wr.cell? ⟨gw, off + i, none⟩ = some (.string (ds.getD i emp)) := by
  obtain ⟨xs, h1, h2⟩ := h.own
  obtain ⟨hs, _, _⟩ := h.want.isS rfl
  obtain ⟨gw, off, rfl, _, hf⟩ := hs.lies (by omega)
  rcases h1.2 with ⟨e, h0⟩ | ⟨g, cap, cur, e, hb, hg, _⟩
  · omega
  · cases e
    have e1 := World.ownsRow.cellAt h1 (i * 2) (by omega)
    have e2 := World.ownsRow.cellAt h1 (i * 2 + 1) (by omega)
    rw [h2 _ (Nat.le_refl _), flP_get0 k ds i hi] at e1
    rw [h2 _ (by omega), flP_get1 k ds i hi] at e2
    exact ⟨g, rfl, e1, e2, fun j => World.ownsRow.frozenAt h1 j, gw, off, rfl, hf i hi⟩
theorem Al.store {g : Nat} (h : Al w wr k ds (some ⟨g, 0, none⟩) c aw cw i) (x y : Value) : Al w ((wr.setCell ⟨g, i * 2, none⟩ x).setCell ⟨g, i * 2 + 1, none⟩ y) k ds (some ⟨g, 0, none⟩) c aw cw (i + 1) := by
  obtain ⟨xs, h1, h2⟩ := h.own
  obtain ⟨s1, g1⟩ := World.ownsRow.stored h1 (i * 2) x
  obtain ⟨s2, g2⟩ := World.ownsRow.stored s1 (i * 2 + 1) y
  have hgr := World.grownBy.trans g1 g2
  refine ⟨h.bel.grown hgr h.bel.size (fun j hj => by cases hj; exact (h1.lt g rfl).1), ⟨_, s2, fun j hj => ?_⟩, h.want.kept hgr ?_⟩
  · rw [List.getElem?_set, List.getElem?_set, if_neg (by omega), if_neg (by omega)]
    exact h2 j (by omega)
  · refine .inr fun e => ?_
    obtain ⟨cur, hc⟩ := h.want.typ g e
    rcases h1.2 with ⟨e', _⟩ | ⟨g', cap, cur', e', hb, hg, _⟩
    · cases e'
    · cases e'
      exact two_types hc hg (by decide) rfl
end
section
variable {B b b' : Nat} {v v' : Value} {win last : Int} {pre ds : List ByteArray}
set_option maxHeartbeats 4000000 in
theorem alike_yes (hbd : pre.length ≤ 10000) (w : World) (h : Sn B w b v win last pre.length ds) (hm : Dm B w b' v' win last pre ds) :
    Calls Try.prog 18 #[.pointer (some ⟨b, 0, none⟩), .pointer (some ⟨b', 0, none⟩)] w fun e w' => e = .returned (.bool true) ∧ Below w.heap.size w w' := by
  have hl : ds.length ≤ 16 := by have := h.ok.len; have := h.ok.w2; omega
  obtain ⟨am, cm, hv, _⟩ := hm.row.is
  subst hv
  have H := Lib.hid h
  have HM := Lib.hid hm
  clear h hm
  go_enter Try.func18, Try.ntmps18
  go_wp2_with fail
  refine (pieces_any w H.out).mono ?_
  rintro e w1 ⟨a, c, rfl, hrow, hb⟩
  have HR := Lib.hid hrow
  have HB := Lib.hid hb
  have H1 := Lib.hid (H.out.next hb)
  have HM1 := Lib.hid (HM.out.next hb)
  clear hrow hb
  go_wp2_with fail
  refine (left_any (by omega) w1 HM1.out).mono ?_
  rintro e w2 ⟨aw, cw, rfl, hrow, hb⟩
  have HA : Hid (Al w w2 pre.length ds a c aw cw 0) := Lib.hid ⟨Below.next HB.out hb, ⟨_, HR.out.below hb, fun _ _ => rfl⟩, hrow.lower HB.out.size⟩
  have H2 := Lib.hid (H1.out.next hb)
  have d2 := (HM1.out.next hb).c2
  rw [List.length_append] at d2
  clear hrow hb HR HB H1 HM1
  go_wp2_with fail
  go_quiet (first | (go_at_call 19; exact Calls.quiet_of_same (unacked_any _ (H2.out.asit rfl))) | (go_at_call 17; exact Calls.quiet_of_same (sent_any _ (H2.out.asit rfl))))
  revert nq
  intro n1
  have HA1 : Hid (Al w (w2.drewN n1) pre.length ds a c aw cw 0) := Lib.hid (HA.out.next ⟨rfl, rfl, rfl, Nat.le_refl _, fun _ _ => rfl⟩)
  clear HA H2 d2
  go_wp2_with fail
  go_loopw [37] (fun v37 wr => ∃ i : Nat, i ≤ ds.length ∧ v37 = .int .i64 i ∧ Al w wr pre.length ds a c aw cw i) (fun v37 _ => ds.length - (intOf v37).toNat)
  case atStart => exact ⟨0, Nat.zero_le _, rfl, HA1.out⟩
  case round =>
    obtain ⟨i, hi, rfl, hal⟩ := hrel
    clear HA1
    by_cases hlt : i < ds.length
    · obtain ⟨g, rfl, e0, e1, hf, gw, off, rfl, ew⟩ := hal.cells hlt
      have e3 := (HM.out.next hal.bel).c3
      have ha2 := hal.next (Joins.below_alloc1 wr (.cells #[.int .i64 ((pre.length + i + 1 : Nat) : Int), .string (ds.getD i emp)] 46))
      obtain ⟨_, eg, f0, f1, ff, gw', off', ea, fw⟩ := ha2.cells hlt
      cases eg
      cases ea
      have f3 := (HM.out.next ha2.bel).c3
      have ff0 := ff (i * 2)
      have ff1 := ff (i * 2 + 1)
      have HA2 := Lib.hid ha2
      have w1 : IntKind.i64.wrap ((pre.length : Int) + (i : Int)) = ((pre.length + i : Nat) : Int) := by
        rw [show (pre.length : Int) + (i : Int) = ((pre.length + i : Nat) : Int) by omega]
        exact i64_id (by omega) (by omega)
      have w2 : IntKind.i64.wrap (((pre.length + i : Nat) : Int) + 1) = ((pre.length + i + 1 : Nat) : Int) := by
        rw [show ((pre.length + i : Nat) : Int) + 1 = ((pre.length + i + 1 : Nat) : Int) by omega]
        exact i64_id (by omega) (by omega)
      clear hal ha2 hf ff
      generalize ((pre.length + i + 1 : Nat) : Int) = Q2 at *
      generalize ((pre.length + i : Nat) : Int) = Q1 at *
      generalize (pre.length : Int) = P at *
      generalize ds.getD i emp = x at *
      have q := eq_yes x
      go_wp2_with fail
      go_quiet (fail)
      go_wp2
      go_roundw
      case rel => exact ⟨i + 1, by omega, by go_num, (HA2.out.next (wr' := (wr.alloc _).drewN nq) ⟨rfl, rfl, rfl, Nat.le_refl _, fun _ _ => rfl⟩).store _ _⟩
      case measure => simp [intOf]; omega
    · obtain rfl : i = ds.length := by omega
      have HA := Lib.hid hal
      clear hal
      go_wp2
      go_ret
      exact ⟨rfl, HA.out.bel⟩
end
end Go.Proofs.Ytkpnmcchahhbdaa
