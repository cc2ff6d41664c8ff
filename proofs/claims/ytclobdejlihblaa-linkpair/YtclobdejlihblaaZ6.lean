/- Pieces. -/
import Derived.Test.YtclobdejlihblaaZ5
namespace Go.Proofs.Ytclobdejlihblaa
open Go Go.RowKit
set_option maxRecDepth 20000
section
variable {B b : Nat} {v : Value} {win last : Int} {k : Nat} {ds : List ByteArray}
theorem RowP.cells {w : World} {a : Option Addr} {c : Nat} (h : RowP B w (.slice a ds.length c) k ds) (i : Nat) (hi : i < ds.length) : ∃ g, a = some ⟨g, 0, none⟩ ∧ B ≤ g ∧ g < w.heap.size ∧ w.cell? ⟨g, i * 2, none⟩ = some (.int .i64 ((k + i + 1 : Nat) : Int)) ∧ w.cell? ⟨g, i * 2 + 1, none⟩ = some (.string (ds.getD i emp)) ∧ ∀ j, w.frozen? ⟨g, j, none⟩ = false := by
  rcases h.2 with ⟨e, h0⟩ | ⟨g, cap, cur, e, hb, hg, _⟩
  · omega
  · cases e
    have h1 := World.ownsRow.cellAt h (i * 2) (by omega)
    have h2 := World.ownsRow.cellAt h (i * 2 + 1) (by omega)
    rw [flP_get0 k ds i hi] at h1
    rw [flP_get1 k ds i hi] at h2
    exact ⟨g, rfl, hb, (Array.getElem?_eq_some_iff.1 hg).1, h1, h2, fun j => World.ownsRow.frozenAt h j⟩
theorem RowP.below {w w1 : World} (h : RowP B w v k ds) (hb : Below w.heap.size w w1) : RowP B w1 v k ds := World.ownsRow.kept h (grownOf none hb) (Classical.em _)
/-- A piece's data stored where it stood. -/
theorem RowP.again {w : World} {g c : Nat} (h : RowP B w (.slice (some ⟨g, 0, none⟩) ds.length c) k ds) (i : Nat) (hi : i < ds.length) : RowP B (w.setCell ⟨g, i * 2 + 1, none⟩ (.string (ds.getD i emp))) (.slice (some ⟨g, 0, none⟩) ds.length c) k ds ∧ w.grownBy (w.setCell ⟨g, i * 2 + 1, none⟩ (.string (ds.getD i emp))) (some g) := by
  obtain ⟨h1, h2⟩ := World.ownsRow.stored h (i * 2 + 1) (.string (ds.getD i emp))
  refine ⟨?_, h2⟩
  have e : (flP k ds).set (i * 2 + 1) (.string (ds.getD i emp)) = flP k ds := by
    have hg := flP_get1 k ds i hi
    obtain ⟨hl, hv⟩ := List.getElem?_eq_some_iff.1 hg
    rw [← hv, List.set_getElem_self]
  rw [e] at h1
  exact h1
theorem getD_mem {i : Nat} (hi : i < ds.length) : ds.getD i emp ∈ ds := by
  have e : ds.getD i emp = ds[i] := by simp [List.getD_eq_getElem?_getD, hi]
  rw [e]; exact List.getElem_mem _
set_option maxHeartbeats 4000000 in
theorem pieces_any (w : World) (h : Sn B w b v win last k ds) :
    Calls Try.prog 40 #[.pointer (some ⟨b, 0, none⟩)] w fun e w' => ∃ a' c', e = .returned (.slice a' ds.length c') ∧ RowP w.heap.size w' (.slice a' ds.length c') k ds ∧ Below w.heap.size w w' := by
  obtain ⟨a, c, hv, hlc, hn⟩ := h.row.is
  subst hv
  have hl : ds.length ≤ 16 := by have := h.ok.len; have := h.ok.w2; omega
  have c3 := h.c3
  have HC := fun w h => Lib.hid (clonep_any (B := B) (k := k) (ds := ds) (by omega) a c w h)
  have HR := Lib.hid h.row
  have HS := Lib.hid h.ok.sh
  clear h hlc hn
  go_enter Try.func40, Try.ntmps40
  go_wp2_with fail
  refine (HC _ HR.out).out.mono ?_
  rintro e w1 ⟨a', c', rfl, hrow, hbel⟩
  have HW := Lib.hid hrow
  have HB := Lib.hid hbel
  clear hrow hbel c3 HC HR
  go_wp2_with fail
  go_loopw [12] (fun v12 wr => ∃ i : Nat, i ≤ ds.length ∧ v12 = .int .i64 i ∧ RowP w.heap.size wr (.slice a' ds.length c') k ds ∧ Below w.heap.size w wr) (fun v12 _ => ds.length - (intOf v12).toNat)
  case atStart => exact ⟨0, Nat.zero_le _, rfl, HW.out, HB.out⟩
  case round =>
    obtain ⟨i, hi, rfl, hrow, hbel⟩ := hrel
    clear HW HB
    by_cases hlt : i < ds.length
    · obtain ⟨g, rfl, hgB, hgl, d0, d1, hf⟩ := hrow.cells i hlt
      have hx : (ds.getD i emp).size ≤ 140737488355328 := by have := HS.out _ (getD_mem hlt); omega
      have HW := Lib.hid hrow
      have HB := Lib.hid hbel
      have HAG := Lib.hid (fun w (h : RowP _ w _ _ _) => RowP.again (B := w.heap.size) (k := k) (c := c') (g := g) h i hlt)
      clear hrow hbel hf d0 HAG
      generalize hD : ds.getD i emp = x at *
      have HD := Lib.hid hD
      clear hD
      go_wp2_with fail
      refine (clone_any x hx _).mono ?_
      rintro e w2 ⟨rfl, hb⟩
      have hrow := HW.out.below hb
      obtain ⟨g', e', _, hgl', e0, e1, hf⟩ := hrow.cells i hlt
      cases e'
      rw [HD.out] at e1
      have f1 := hf (i * 2 + 1)
      have hag := hrow.again i hlt
      rw [HD.out] at hag
      have HW2 := Lib.hid hag.1
      have HB2 := Lib.hid ((Below.next HB.out hb).grown hag.2 (Below.next HB.out hb).size (fun j hj => by cases hj; exact hgB))
      clear hrow hb hf e0 hag d1 HB HW
      go_wp2
      go_roundw
      case rel => exact ⟨i + 1, by omega, by go_num, HW2.out, HB2.out⟩
      case measure => simp [intOf]; omega
    · obtain rfl : i = ds.length := by omega
      have HW := Lib.hid hrow
      have HB := Lib.hid hbel
      clear hrow hbel
      go_wp2
      go_ret
      exact ⟨a', c', rfl, HW.out, HB.out⟩
end
end Go.Proofs.Ytclobdejlihblaa
