/- A sender within a law; awake. -/
import Derived.Test.YtkpnmcchahhbdaaZ8
namespace Go.Proofs.Ytkpnmcchahhbdaa
open Go Go.RowKit
set_option maxRecDepth 20000
/-- How a sender stands within a law that began in w0. -/
structure Up (B : Nat) (w0 w : World) (b : Nat) (v : Value) (win last : Int) (k : Nat) (ds : List ByteArray) : Prop where
  sn : Sn B w b v win last k ds
  bel : Below B w0 w
  le : B ≤ w.heap.size
section
variable {B : Nat} {w0 w w' : World} {b : Nat} {v : Value} {win last : Int} {k : Nat} {ds : List ByteArray}
theorem Up.next (h : Up B w0 w b v win last k ds) (hb : Below w.heap.size w w') : Up B w0 w' b v win last k ds := ⟨h.sn.next hb, h.bel.trans (hb.mono h.le), Nat.le_trans h.le hb.size⟩
theorem Up.asit (h : Up B w0 w b v win last k ds) (e : w'.heap = w.heap) (e1 : w'.os = w.os) (e2 : w'.tape = w.tape) (e3 : w'.output = w.output) : Up B w0 w' b v win last k ds :=
  ⟨h.sn.asit e, h.bel.trans ⟨e1, e2, e3, by rw [e]; exact Nat.le_refl _, fun i _ => by rw [e]⟩, by rw [e]; exact h.le⟩
theorem Up.fr {v' : Value} {win' last' : Int} {k' : Nat} {ds' : List ByteArray} (h : Up B w0 w b v win last k ds) (hs : Sn B w' b v' win' last' k' ds') (hf : Fr w w' b v.ownBlock) : Up B w0 w' b v' win' last' k' ds' :=
  ⟨hs, Fr.below h.bel hf h.sn.lo (fun j hj => (h.sn.row.lt j hj).1) h.le, Nat.le_trans h.le hf.size⟩
theorem up_new (a c : Int) (hbel : Below B w0 w) (hB : B ≤ w.heap.size) : Calls Try.prog 8 #[.int .i64 a, .int .i64 c] w fun x w' => x = .returned (.pointer (some ⟨w.heap.size, 0, none⟩)) ∧ Up B w0 w' w.heap.size (.slice none 0 0) (winOf a) (lastOf c) 0 [] := by
  refine (new_any a c w).mono ?_
  rintro x w1 ⟨rfl, hs, hb⟩
  exact ⟨rfl, hs.lower hB, hbel.trans (hb.mono hB), Nat.le_trans hB hb.size⟩
theorem up_off (x : ByteArray) (hx : x.size ≤ 1000) {N E : Int} {D : List ByteArray} (hN : offN win last k ds = N) (hE : offE win last k ds = E) (hD : offD win last k ds x = D) (h : Up B w0 w b v win last k ds) :
    Calls Try.prog 12 #[.pointer (some ⟨b, 0, none⟩), .string x] w fun e w' => e = .returned (.tuple #[.int .i64 N, .int .i64 E]) ∧ ∃ v', Up B w0 w' b v' win last k D := by
  subst hN hE hD
  refine (off_any x hx w h.sn).mono ?_
  rintro e w1 ⟨rfl, v', hs, hf, _⟩
  exact ⟨rfl, v', h.fr hs hf⟩
theorem up_ack (n : Int) {m : Nat} (hm : ackM k ds.length n = m) (h : Up B w0 w b v win last k ds) :
    Calls Try.prog 14 #[.pointer (some ⟨b, 0, none⟩), .int .i64 n] w fun e w' => e = .returned (.int .i64 (m : Int)) ∧ ∃ v', Up B w0 w' b v' win last (k + m) (ds.drop m) := by
  subst hm
  refine (ack_any n w h.sn).mono ?_
  rintro e w1 ⟨rfl, v', hs, hf, _⟩
  exact ⟨rfl, v', h.fr hs hf⟩
end
theorem Fr.seg {w w' : World} {b : Nat} {r : Option Nat} {lo hi : Nat} (hf : Fr w w' b r) (hb : b < lo) (hr : ∀ j, r = some j → j < lo ∨ hi ≤ j) {i : Nat} (h1 : lo ≤ i) (h2 : i < hi) (h3 : i < w.heap.size) : w'.heap[i]? = w.heap[i]? :=
  hf.block i h3 (by omega) (fun e => by have := hr i e.symm; omega)
theorem RowP.same {B : Nat} {w w' : World} {v : Value} {k : Nat} {ds : List ByteArray} (h : RowP B w v k ds) (hv : ∀ j, v.ownBlock = some j → w'.heap[j]? = w.heap[j]?) : RowP B w' v k ds := by
  obtain ⟨h1, h2⟩ := h
  refine ⟨h1, ?_⟩
  rcases h2 with h2 | ⟨g, cap, cur, rfl, hb, hg, r⟩
  · exact .inl h2
  · exact .inr ⟨g, cap, cur, rfl, hb, (hv g rfl).trans hg, r⟩
set_option maxHeartbeats 4000000 in
theorem awake_yes (w : World) : Calls Try.prog 10 #[] w fun e w' => e = .returned (.bool true) ∧ Below w.heap.size w w' := by
  have HW := Lib.hid (Below.refl w.heap.size w)
  go_enter Try.func10, Try.ntmps10
  go_wp2_with fail
  refine (up_new 2 3 HW.out (Nat.le_refl _)).mono ?_
  rintro e w1 ⟨rfl, h⟩
  generalize hbb : w.heap.size = b at h ⊢
  have H1 := Lib.hid h
  have HBB := Lib.hid hbb
  clear h hbb
  go_wp2_with fail
  refine (up_off ⟨#[97]⟩ (by decide) (N := 1) (E := 0) (D := [⟨#[97]⟩]) (by decide) (by decide) (by rfl) H1.out).mono ?_
  rintro e w2 ⟨rfl, v2, h⟩
  have H2 := Lib.hid h
  clear h H1
  go_wp2_with fail
  refine (up_off ⟨#[98]⟩ (by decide) (N := 2) (E := 0) (D := [⟨#[97]⟩, ⟨#[98]⟩]) (by decide) (by decide) (by rfl) H2.out).mono ?_
  rintro e w3 ⟨rfl, v3, h⟩
  have H3 := Lib.hid h
  clear h H2
  go_wp2_with fail
  refine (up_off ⟨#[99]⟩ (by decide) (N := 0) (E := 7) (D := [⟨#[97]⟩, ⟨#[98]⟩]) (by decide) (by decide) (by rfl) H3.out).mono ?_
  rintro e w4 ⟨rfl, v4, h⟩
  have H4 := Lib.hid h
  clear h H3
  go_wp2_with fail
  refine (up_ack 1 (m := 1) (by decide) H4.out).mono ?_
  rintro e w5 ⟨rfl, v5, h⟩
  have H5 : Hid (Up _ _ w5 _ v5 _ _ 1 [⟨#[98]⟩]) := Lib.hid h
  clear h H4
  go_wp2_with fail
  refine (up_off ⟨#[99]⟩ (by decide) (N := 3) (E := 0) (D := [⟨#[98]⟩, ⟨#[99]⟩]) (by decide) (by decide) (by rfl) H5.out).mono ?_
  rintro e w6 ⟨rfl, v6, h⟩
  have H6 := Lib.hid h
  clear h H5
  go_wp2_with fail
  refine (pieces_any w6 H6.out.sn).mono ?_
  rintro e w7 ⟨a, c, rfl, hrow, hb⟩
  have H7 := Lib.hid (H6.out.next hb)
  have HR := Lib.hid hrow
  clear hrow hb
  go_wp2_with fail
  refine (ack_any 3 w7 H7.out.sn).mono ?_
  have e3 : ackM 1 ([⟨#[98]⟩, ⟨#[99]⟩] : List ByteArray).length 3 = 2 := by decide
  rw [e3]
  rintro e w8 ⟨rfl, v8, hs, hf, hn⟩
  have r8 : RowP w6.heap.size w8 _ _ _ := HR.out.same fun g hg => hf.seg (lo := w6.heap.size) (hi := w7.heap.size) H6.out.sn.lt (fun j hj => .inl (H6.out.sn.row.lt j hj).2) (HR.out.pr.lt g hg).1 (HR.out.pr.lt g hg).2 (HR.out.pr.lt g hg).2
  have HR8 := Lib.hid r8
  have HL8 : Hid (∀ j, v8.ownBlock = some j → j < w6.heap.size ∨ w7.heap.size ≤ j) := Lib.hid fun j hj => (hn j hj).imp (fun h => (H6.out.sn.row.lt j h).2) id
  have HL : Hid (w7.heap.size ≤ w8.heap.size) := Lib.hid hf.size
  have H8 : Hid (Up _ _ w8 _ v8 _ _ 3 []) := Lib.hid (H7.out.fr hs hf)
  clear hs hf hn r8 H7
  go_wp2_with fail
  refine (off_any ⟨#[100]⟩ (by decide) w8 H8.out.sn).mono ?_
  have e4 : offN (winOf 2) (lastOf 3) 3 [] = 0 := by decide
  have e5 : offE (winOf 2) (lastOf 3) 3 [] = 8 := by decide
  have e6 : offD (winOf 2) (lastOf 3) 3 [] ⟨#[100]⟩ = [] := by rfl
  rw [e4, e5, e6]
  rintro e w9 ⟨rfl, v9, hs, hf, hn⟩
  have r9 : RowP w6.heap.size w9 _ _ _ := HR8.out.same fun g hg => hf.seg (lo := w6.heap.size) (hi := w7.heap.size) H6.out.sn.lt (fun j hj => HL8.out j hj) (HR.out.pr.lt g hg).1 (HR.out.pr.lt g hg).2 (HR8.out.pr.lt g hg).2
  obtain ⟨g, rfl, _, _, d0, d1, _⟩ := r9.cells 0 (by decide)
  have H9 := Lib.hid (H8.out.fr hs hf)
  clear hs hf hn r9 HR8 HL8 HL H8 HR H6 e3 e4 e5 e6
  change w9.cell? ⟨g, 0, none⟩ = some (.int .i64 2) at d0
  change w9.cell? ⟨g, 1, none⟩ = some (.string ⟨#[98]⟩) at d1
  go_wp2_with fail
  refine (unacked_any _ H9.out.sn).mono ?_
  rintro e w10 ⟨rfl, rfl⟩
  go_wp2_with fail
  refine (sent_any _ H9.out.sn).mono ?_
  rintro e w11 ⟨rfl, rfl⟩
  go_wp2
  go_ret
  exact ⟨rfl, by first | exact H9.out.bel | (rw [HBB.out]; exact H9.out.bel)⟩
end Go.Proofs.Ytkpnmcchahhbdaa
