/- Same; a receiver within a law; awake. -/
import Derived.Test.YtlmnncablfbafaaE5
namespace Go.Proofs.Ytlmnncablfbafaa
open Go Go.RowKit
set_option maxRecDepth 20000
theorem eq_yes (s : ByteArray) : (s.toList == s.toList) = true := by simp
theorem below_asit {w w' : World} {B : Nat} (e : w'.heap = w.heap) (e1 : w'.os = w.os) (e2 : w'.tape = w.tape) (e3 : w'.output = w.output) : Below B w w' := ⟨e1, e2, e3, by rw [e]; exact Nat.le_refl _, fun i _ => by rw [e]⟩
theorem SsAt.asit {w w' : World} {a : Option Addr} {len : Nat} {ts : List ByteArray} (h : SsAt w a len ts) (e : w'.heap = w.heap) : SsAt w' a len ts :=
  ⟨h.size, fun h0 => by
    obtain ⟨b, off, e1, hl, hf⟩ := h.lies h0
    exact ⟨b, off, e1, by rw [e]; exact hl, fun i hi => by rw [← hf i hi]; unfold World.cell?; rw [e]⟩⟩
set_option maxHeartbeats 4000000 in
theorem same_yes (a1 a2 : Option Addr) (len x1 x2 : Nat) (ts : List ByteArray) (hl : len ≤ 1000000) (w : World) (h1 : SsAt w a1 len ts) (h2 : SsAt w a2 len ts) :
    Calls Try.prog 18 #[.slice a1 len x1, .slice a2 len x2] w fun e w' => e = .returned (.bool true) ∧ w'.heap = w.heap ∧ w'.os = w.os ∧ w'.tape = w.tape ∧ w'.output = w.output := by
  have hs := h1.size
  have H1 := Lib.hid h1
  have H2 := Lib.hid h2
  clear h1 h2
  go_enter Try.func18, Try.ntmps18
  go_wp2_with fail
  go_loopw [5] (fun v5 wr => ∃ i : Nat, i ≤ len ∧ v5 = .int .i64 i ∧ (wr.heap = w.heap ∧ wr.os = w.os ∧ wr.tape = w.tape ∧ wr.output = w.output)) (fun v5 _ => len - (intOf v5).toNat)
  case atStart => exact ⟨0, Nat.zero_le _, rfl, rfl, rfl, rfl, rfl⟩
  case round =>
    obtain ⟨i, hi, rfl, hE⟩ := hrel
    have HE := Lib.hid hE
    by_cases hlt : i < len
    · obtain ⟨b1, o1, rfl, _, f1⟩ := (H1.out.asit hE.1).lies (by omega)
      obtain ⟨b2, o2, rfl, _, f2⟩ := (H2.out.asit hE.1).lies (by omega)
      have d1 := f1 i (by omega)
      have d2 := f2 i (by omega)
      clear f1 f2 hE
      generalize ts.getD i emp = s at *
      have q := eq_yes s
      go_wp2_with fail
      go_quiet (fail)
      go_wp2
      go_roundw
      case rel => exact ⟨i + 1, by omega, by go_num, HE.out⟩
      case measure => simp [intOf]; omega
    · obtain rfl : i = len := by omega
      clear hE
      go_wp2
      go_ret
      exact ⟨rfl, HE.out⟩
/-- How a receiver stands within a law that began in w0. -/
structure Ur (B : Nat) (w0 w : World) (b : Nat) (room : Int) (k : Nat) (ps L : List ByteArray) : Prop where
  rv : Rv B w b room k ps L
  bel : Below B w0 w
  le : B ≤ w.heap.size
section
variable {B : Nat} {w0 w w' : World} {b : Nat} {room : Int} {k : Nat} {ps L : List ByteArray}
theorem Ur.next (h : Ur B w0 w b room k ps L) (hb : Below w.heap.size w w') : Ur B w0 w' b room k ps L := ⟨h.rv.next hb, h.bel.trans (hb.mono h.le), Nat.le_trans h.le hb.size⟩
theorem Ur.asit (h : Ur B w0 w b room k ps L) (e : w'.heap = w.heap) (e1 : w'.os = w.os) (e2 : w'.tape = w.tape) (e3 : w'.output = w.output) : Ur B w0 w' b room k ps L := h.next (below_asit e e1 e2 e3)
theorem Ur.gr {k' : Nat} {ps' L' : List ByteArray} (h : Ur B w0 w b room k ps L) (hs : Rv B w' b room k' ps' L') (hg : w.grownBy w' (some b)) : Ur B w0 w' b room k' ps' L' :=
  ⟨hs, h.bel.grown hg h.le (fun j hj => by cases hj; exact h.rv.lo), Nat.le_trans h.le hg.size⟩
theorem ur_new (a : Int) {r : Int} (hr : roomOf a = r) (hbel : Below B w0 w) (hB : B ≤ w.heap.size) : Calls Try.prog 7 #[.int .i64 a] w fun x w' => x = .returned (.pointer (some ⟨w.heap.size, 0, none⟩)) ∧ Ur B w0 w' w.heap.size r 0 [] (List.replicate 16 emp) ∧ Below w.heap.size w w' := by
  subst hr
  refine (new_any a w).mono ?_
  rintro x w1 ⟨rfl, hs, hb⟩
  exact ⟨rfl, ⟨hs.lower hB, hbel.trans (hb.mono hB), Nat.le_trans hB hb.size⟩, hb⟩
theorem ur_hear (seq : Int) (x : ByteArray) (hx : x.size ≤ 1000) {T : Bool} {D : List ByteArray} (hT : decide (takes room k ps seq) = T) (hD : hearD room k ps seq x = D) (hk : k + ps.length ≤ 1000000) (h : Ur B w0 w b room k ps L) :
    Calls Try.prog 11 #[.pointer (some ⟨b, 0, none⟩), .int .i64 seq, .string x] w fun e w' => e = .returned (.bool T) ∧ (∃ L', Ur B w0 w' b room k D L') ∧ w.grownBy w' (some b) := by
  subst hT hD
  refine (hear_any seq x hx hk w h.rv).mono ?_
  rintro e w1 ⟨rfl, ⟨L', hs⟩, hg⟩
  exact ⟨rfl, ⟨L', h.gr hs hg⟩, hg⟩
theorem ur_pop (x : ByteArray) (hk : k + (ps.length + 1) ≤ 1000000) (h : Ur B w0 w b room k (x :: ps) L) :
    Calls Try.prog 13 #[.pointer (some ⟨b, 0, none⟩)] w fun e w' => e = .returned (.tuple #[.string x, .bool true]) ∧ (∃ L', Ur B w0 w' b room (k + 1) ps L') ∧ w.grownBy w' (some b) := by
  refine (pop_yes x hk w h.rv).mono ?_
  rintro e w1 ⟨rfl, ⟨L', hs⟩, hg⟩
  exact ⟨rfl, ⟨L', h.gr hs hg⟩, hg⟩
end
theorem ssAt_two (w : World) (x y : ByteArray) : SsAt (w.alloc (.cells #[.string x, .string y] 9)) (some ⟨w.heap.size, 0, none⟩) 2 [x, y] :=
  ⟨rfl, fun _ => ⟨w.heap.size, 0, rfl, by simp, fun i hi => by
    rcases (show i = 0 ∨ i = 1 by simp at hi; omega) with rfl | rfl
    · exact cell_at (new_at rfl) 0 _ rfl
    · exact cell_at (new_at rfl) 1 _ rfl⟩⟩
set_option maxHeartbeats 4000000 in
theorem awake_yes (w : World) : Calls Try.prog 9 #[] w fun e w' => e = .returned (.bool true) ∧ Below w.heap.size w w' := by
  have HW := Lib.hid (Below.refl w.heap.size w)
  go_enter Try.func9, Try.ntmps9
  go_wp2_with fail
  refine (ur_new 2 (r := 2) (by decide) HW.out (Nat.le_refl _)).mono ?_
  rintro e w1 ⟨rfl, h, _⟩
  generalize hbb : w.heap.size = b at h ⊢
  have H1 := Lib.hid h
  have HBB := Lib.hid hbb
  clear h hbb
  go_wp2_with fail
  refine (ur_hear 2 ⟨#[98]⟩ (by decide) (T := false) (D := []) (by decide) (by rfl) (by decide) H1.out).mono ?_
  rintro e w2 ⟨rfl, ⟨L2, h⟩, _⟩
  have H2 := Lib.hid h
  clear h H1
  go_wp2_with fail
  refine (ur_hear 1 ⟨#[97]⟩ (by decide) (T := true) (D := [⟨#[97]⟩]) (by decide) (by rfl) (by decide) H2.out).mono ?_
  rintro e w3 ⟨rfl, ⟨L3, h⟩, _⟩
  have H3 := Lib.hid h
  clear h H2
  go_wp2_with fail
  refine (ur_hear 1 ⟨#[97]⟩ (by decide) (T := false) (D := [⟨#[97]⟩]) (by decide) (by rfl) (by decide) H3.out).mono ?_
  rintro e w4 ⟨rfl, ⟨L4, h⟩, _⟩
  have H4 := Lib.hid h
  clear h H3
  go_wp2_with fail
  refine (ur_hear 2 ⟨#[98]⟩ (by decide) (T := true) (D := [⟨#[97]⟩, ⟨#[98]⟩]) (by decide) (by rfl) (by decide) H4.out).mono ?_
  rintro e w5 ⟨rfl, ⟨L5, h⟩, _⟩
  have H5 := Lib.hid h
  clear h H4
  go_wp2_with fail
  refine (ur_hear 3 ⟨#[99]⟩ (by decide) (T := false) (D := [⟨#[97]⟩, ⟨#[98]⟩]) (by decide) (by rfl) (by decide) H5.out).mono ?_
  rintro e w6 ⟨rfl, ⟨L6, h⟩, _⟩
  have H6 := Lib.hid h
  clear h H5
  go_wp2_with fail
  refine (look_any (by decide) w6 H6.out.rv).mono ?_
  rintro e w7 ⟨g, rfl, hrow, hb⟩
  have H7 := Lib.hid (H6.out.next hb)
  have HR := Lib.hid hrow
  clear hrow hb
  go_wp2_with fail
  refine (ur_pop ⟨#[97]⟩ (by decide) H7.out).mono ?_
  rintro e w8 ⟨rfl, ⟨L8, h⟩, hg⟩
  have hne : (Value.slice (some ⟨g, 0, none⟩) ([⟨#[97]⟩, ⟨#[98]⟩] : List ByteArray).length ([⟨#[97]⟩, ⟨#[98]⟩] : List ByteArray).length).ownBlock ≠ some b := fun e => by
    have h1 := (HR.out.lt b e).1
    have h2 := H6.out.rv.lt
    omega
  have HR8 := Lib.hid (HR.out.kept hg (.inr hne))
  have H8 := Lib.hid h
  clear h hg H7 hne HR H6
  have HS : Hid (SsAt (w8.alloc (.cells #[.string ⟨#[97]⟩, .string ⟨#[98]⟩] 9)) (some ⟨g, 0, none⟩) 2 [⟨#[97]⟩, ⟨#[98]⟩]) := Lib.hid (HR8.out.alloc _).isS rfl |>.1
  clear HR8
  have H9 : Hid (Ur _ _ (w8.alloc (.cells #[.string ⟨#[97]⟩, .string ⟨#[98]⟩] 9)) b 2 1 [⟨#[98]⟩] L8) := Lib.hid (H8.out.next (Joins.below_alloc1 _ _))
  go_wp2_with fail
  refine (same_yes _ _ 2 2 2 [⟨#[97]⟩, ⟨#[98]⟩] (by decide) _ HS.out (ssAt_two _ _ _)).mono ?_
  rintro e w10 ⟨rfl, e1, e2, e3, e4⟩
  have H10 := Lib.hid (H9.out.asit e1 e2 e3 e4)
  clear e1 e2 e3 e4 H9 HS H8
  go_wp2_with fail
  refine (ack_any _ H10.out.rv).mono ?_
  rintro e w11 ⟨rfl, rfl⟩
  go_wp2_with fail
  refine (waiting_any _ H10.out.rv).mono ?_
  rintro e w12 ⟨rfl, rfl⟩
  go_wp2_with fail
  refine (ur_hear 3 ⟨#[99]⟩ (by decide) (T := true) (D := [⟨#[98]⟩, ⟨#[99]⟩]) (by decide) (by rfl) (by decide) H10.out).mono ?_
  rintro e w13 ⟨rfl, ⟨L13, h⟩, _⟩
  have H13 := Lib.hid h
  clear h H10
  go_wp2
  go_ret
  exact ⟨rfl, by first | exact H13.out.bel | (rw [HBB.out]; exact H13.out.bel)⟩
end Go.Proofs.Ytlmnncablfbafaa
