/- A receiver's Pop; beside a sender. -/
import Derived.Test.YtclobdejlihblaaJE3
namespace Go.Proofs.Ytclobdejlihblaa.Rcv
open Go Go.RowKit
set_option maxRecDepth 20000
theorem ring_less {k : Nat} {x : ByteArray} {ps L : List ByteArray} (h : Ring k (x :: ps) L) (hl : ps.length < 16) : Ring (k + 1) ps (L.set ((k + 1) % 16) emp) := by
  obtain ⟨h1, h2⟩ := h
  refine ⟨by rw [List.length_set]; exact h1, fun i hi => ?_⟩
  have := h2 (i + 1) (by rw [List.length_cons]; omega)
  simp only [List.getD_eq_getElem?_getD, List.getElem?_cons_succ] at this ⊢
  rw [List.getElem?_set_ne (by omega), show k + 1 + 1 + i = k + 1 + (i + 1) by omega]
  exact this
section
variable {B : Nat} {b : Nat} {room : Int} {k : Nat} {ps L : List ByteArray}
theorem Okr.less {x : ByteArray} (h : Okr room (x :: ps)) : Okr room ps := ⟨h.r1, h.r2, by have := h.len; rw [List.length_cons] at this; omega, fun d hd => h.sh d (List.mem_cons_of_mem _ hd)⟩
set_option maxHeartbeats 1000000 in
theorem pop_none (w : World) (h : Rv B w b room k [] L) :
    Calls Try.prog 18 #[.pointer (some ⟨b, 0, none⟩)] w fun e w' => e = .returned (.tuple #[.string emp, .bool false]) ∧ w' = w := by
  have c2 : w.cell? ⟨b, 2, none⟩ = some (.int .i64 0) := h.c2
  unfold emp
  clear h
  go_enter Try.func18, Try.ntmps18
  go_wp2
  go_ret2
  exact ⟨rfl, rfl⟩
theorem pop_fin {w : World} {x : ByteArray} {j : Nat} (hjj : (k + 1) % 16 = j) (h : Rv B w b room k (x :: ps) L) :
    w.cell? ⟨b, 3 + j, none⟩ = some (.string x) ∧ w.frozen? ⟨b, 3 + j, none⟩ = false ∧ (w.setCell ⟨b, 3 + j, none⟩ (.string emp)).cell? ⟨b, 2, none⟩ = some (.int .i64 ((ps.length + 1 : Nat) : Int)) ∧ (w.setCell ⟨b, 3 + j, none⟩ (.string emp)).frozen? ⟨b, 2, none⟩ = false ∧
      Hid (Rv B ((w.setCell ⟨b, 3 + j, none⟩ (.string emp)).setCell ⟨b, 2, none⟩ (.int .i64 (ps.length : Int))) b room (k + 1) ps (L.set j emp) ∧ w.grownBy ((w.setCell ⟨b, 3 + j, none⟩ (.string emp)).setCell ⟨b, 2, none⟩ (.int .i64 (ps.length : Int))) (some b)) := by
  have h0 : Rc w b room (k + (x :: ps).length) (x :: ps).length L := h.blk
  have h1 := h0.setj j emp
  refine ⟨?_, h0.f0 _, h1.c2, h1.f0 _, ⟨⟨h.lo, ?_, ?_, h.ok.less⟩, World.grownBy.trans (grown_set w b (3 + j) (.string emp)) (grown_set (w.setCell ⟨b, 3 + j, none⟩ (.string emp)) b 2 (.int .i64 (ps.length : Int)))⟩⟩
  · have := h.at 0 (by simp)
    rw [Nat.add_zero, hjj] at this
    exact this
  · have := h1.set2 ps.length
    rw [List.length_cons, show k + (ps.length + 1) = k + 1 + ps.length by omega] at this
    exact this
  · have := ring_less h.ring (by have := h.ok.le; rw [List.length_cons] at this; omega)
    rw [hjj] at this
    exact this
set_option maxHeartbeats 2000000 in
theorem pop_yes (x : ByteArray) (hk : k + (ps.length + 1) ≤ 1000000) (w : World) (h : Rv B w b room k (x :: ps) L) :
    Calls Try.prog 18 #[.pointer (some ⟨b, 0, none⟩)] w fun e w' => e = .returned (.tuple #[.string x, .bool true]) ∧ (∃ L', Rv B w' b room (k + 1) ps L') ∧ w.grownBy w' (some b) := by
  have c2 : w.cell? ⟨b, 2, none⟩ = some (.int .i64 ((ps.length + 1 : Nat) : Int)) := h.c2
  have hl := h.ok.le
  rw [List.length_cons] at hl
  have hw : IntKind.i64.wrap (((ps.length + 1 : Nat) : Int) - 1) = (ps.length : Int) := by
    rw [show ((ps.length + 1 : Nat) : Int) - 1 = (ps.length : Int) by omega]
    exact i64_id (by omega) (by omega)
  have hn : ¬ ((ps.length + 1 : Nat) : Int) = 0 := by omega
  have HP := fun w => Lib.hid (place_any (k + 1) (by omega) w)
  have H := Lib.hid h
  have hj : (k + 1) % 16 < 16 := Nat.mod_lt _ (by decide)
  generalize hJ : (k + 1) % 16 = j at *
  have HJ := Lib.hid hJ
  have hj2 : (j : Int) < 16 := by omega
  clear h hJ
  go_enter Try.func18, Try.ntmps18
  generalize hT : ((ps.length + 1 : Nat) : Int) = T1 at *
  have HT := Lib.hid hT
  clear hT
  go_wp2_with fail
  refine (first_any (by rw [List.length_cons]; exact hk) w H.out).mono ?_
  rintro e w1 ⟨rfl, e1, e2, e3, e4⟩
  obtain ⟨d1, f1, d2, f2, HF⟩ := pop_fin HJ.out (H.out.asit e1)
  rw [HT.out] at d2
  unfold emp at d2 f2 HF
  have HE : Hid (w.grownBy w1 (some b)) := Lib.hid (grown_asit e1 e2 e3 e4)
  clear e1 e2 e3 e4 c2
  go_wp2_with fail
  refine (HP _).out.mono ?_
  rintro e w2 ⟨rfl, rfl⟩
  go_wp2
  go_ret2
  exact ⟨rfl, ⟨_, HF.out.1⟩, World.grownBy.trans HE.out HF.out.2⟩
end
end Go.Proofs.Ytclobdejlihblaa.Rcv
