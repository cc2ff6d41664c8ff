/- A receiver, as it lies there; New, Ack, Waiting, place, first; beside a sender. -/
import Derived.Test.YtclobdejlihblaaZ8
import Derived.Deep.QuietTactic
import Derived.BigQuiet
namespace Go.Proofs.Ytclobdejlihblaa.Rcv
open Go Go.RowKit
set_option maxRecDepth 20000
/-- What may stand. -/
structure Okr (room : Int) (ps : List ByteArray) : Prop where
  r1 : 1 ≤ room
  r2 : room ≤ 16
  len : (ps.length : Int) ≤ room
  sh : ∀ d ∈ ps, d.size ≤ 1000
theorem Okr.le {room : Int} {ps : List ByteArray} (h : Okr room ps) : ps.length ≤ 16 := by have := h.len; have := h.r2; omega
/-- The cells of a receiver. -/
def rcl (room : Int) (ack wt : Nat) (L : List ByteArray) : Array Value := (Value.int .i64 room :: Value.int .i64 (ack : Int) :: Value.int .i64 (wt : Int) :: L.map Value.string).toArray
/-- Those that wait lie in the ring, each at its number's place. -/
def Ring (k : Nat) (ps L : List ByteArray) : Prop := L.length = 16 ∧ ∀ i, i < ps.length → L.getD ((k + 1 + i) % 16) emp = ps.getD i emp
/-- In block b lies a receiver: k were popped, ps wait, in the ring L. -/
structure Rv (B : Nat) (w : World) (b : Nat) (room : Int) (k : Nat) (ps L : List ByteArray) : Prop where
  lo : B ≤ b
  blk : w.heap[b]? = some (.cells (rcl room (k + ps.length) ps.length L) 76 (0, 0))
  ring : Ring k ps L
  ok : Okr room ps
section
variable {B : Nat} {w w' : World} {b : Nat} {room : Int} {k : Nat} {ps L : List ByteArray}
theorem Rv.c0 (h : Rv B w b room k ps L) : w.cell? ⟨b, 0, none⟩ = some (.int .i64 room) := cell_at h.blk 0 _ rfl
theorem Rv.c1 (h : Rv B w b room k ps L) : w.cell? ⟨b, 1, none⟩ = some (.int .i64 ((k + ps.length : Nat) : Int)) := cell_at h.blk 1 _ rfl
theorem Rv.c2 (h : Rv B w b room k ps L) : w.cell? ⟨b, 2, none⟩ = some (.int .i64 (ps.length : Int)) := cell_at h.blk 2 _ rfl
theorem rcl_get (room : Int) (ack wt : Nat) (L : List ByteArray) (hL : L.length = 16) (j : Nat) (hj : j < 16) : (rcl room ack wt L)[3 + j]? = some (.string (L.getD j emp)) := by
  unfold rcl
  rw [List.getElem?_toArray, show 3 + j = j + 1 + 1 + 1 by omega]
  simp only [List.getElem?_cons_succ, List.getElem?_map]
  rw [List.getElem?_eq_getElem (by omega)]
  simp [List.getD_eq_getElem?_getD, hL, hj]
theorem Rv.cj (h : Rv B w b room k ps L) (j : Nat) (hj : j < 16) : w.cell? ⟨b, 3 + j, none⟩ = some (.string (L.getD j emp)) := cell_at h.blk (3 + j) _ (rcl_get _ _ _ _ h.ring.1 j hj)
theorem Rv.f0 (h : Rv B w b room k ps L) (i : Nat) : w.frozen? ⟨b, i, none⟩ = false := by have := h.blk; simp [World.frozen?, this]
theorem Rv.lt (h : Rv B w b room k ps L) : b < w.heap.size := (Array.getElem?_eq_some_iff.1 h.blk).1
theorem Rv.same (h : Rv B w b room k ps L) (hb : w'.heap[b]? = w.heap[b]?) : Rv B w' b room k ps L := ⟨h.lo, hb.trans h.blk, h.ring, h.ok⟩
theorem Rv.next (h : Rv B w b room k ps L) (hb : Below w.heap.size w w') : Rv B w' b room k ps L := h.same (hb.block b h.lt)
theorem Rv.asit (h : Rv B w b room k ps L) (e : w'.heap = w.heap) : Rv B w' b room k ps L := h.same (by rw [e])
theorem Rv.lower {B' : Nat} (h : Rv B w b room k ps L) (hB : B' ≤ B) : Rv B' w b room k ps L := ⟨Nat.le_trans hB h.lo, h.blk, h.ring, h.ok⟩
theorem Rv.kept {row : Option Nat} (h : Rv B w b room k ps L) (hg : w.grownBy w' row) (hne : some b ≠ row) : Rv B w' b room k ps L := h.same (hg.block b h.lt hne)
theorem Rv.at (h : Rv B w b room k ps L) (i : Nat) (hi : i < ps.length) : w.cell? ⟨b, 3 + (k + 1 + i) % 16, none⟩ = some (.string (ps.getD i emp)) := by
  rw [h.cj _ (Nat.mod_lt _ (by decide)), h.ring.2 i hi]
end
def roomOf (a : Int) : Int := min (max a 1) 16
theorem okr_new (a : Int) : Okr (roomOf a) [] := by
  unfold roomOf
  exact ⟨by omega, by omega, by simp only [List.length_nil]; omega, fun d hd => by cases hd⟩
set_option maxHeartbeats 400000 in
theorem new_any (a : Int) (w : World) : Calls Try.prog 42 #[.int .i64 a] w fun x w' => x = .returned (.pointer (some ⟨w.heap.size, 0, none⟩)) ∧ Rv w.heap.size w' w.heap.size (roomOf a) 0 [] (List.replicate 16 emp) ∧ Below w.heap.size w w' := by
  have HO := Lib.hid (okr_new a)
  unfold roomOf at *
  go_enter Try.func42, Try.ntmps42
  go_wp2
  go_ret
  exact ⟨rfl, ⟨Nat.le_refl _, heap_alloc_new _ _, ⟨rfl, fun i hi => absurd hi (by simp)⟩, HO.out⟩, Joins.below_alloc1 _ _⟩
section
variable {B : Nat} {b : Nat} {room : Int} {k : Nat} {ps L : List ByteArray}
theorem ack_any (w : World) (h : Rv B w b room k ps L) : Calls Try.prog 39 #[.pointer (some ⟨b, 0, none⟩)] w fun x w' => x = .returned (.int .i64 ((k + ps.length : Nat) : Int)) ∧ w' = w := by
  have c1 := h.c1
  generalize ((k + ps.length : Nat) : Int) = S at *
  clear h
  go_enter Try.func39, Try.ntmps39
  go_wp2
  go_ret
  exact ⟨rfl, rfl⟩
theorem waiting_any (w : World) (h : Rv B w b room k ps L) : Calls Try.prog 23 #[.pointer (some ⟨b, 0, none⟩)] w fun x w' => x = .returned (.int .i64 (ps.length : Int)) ∧ w' = w := by
  have c2 := h.c2
  generalize (ps.length : Int) = S at *
  clear h
  go_enter Try.func23, Try.ntmps23
  go_wp2
  go_ret
  exact ⟨rfl, rfl⟩
theorem place_any (n : Nat) (hn : n ≤ 2000000) (w : World) : Calls Try.prog 37 #[.int .i64 (n : Int)] w fun x w' => x = .returned (.int .i64 ((n % 16 : Nat) : Int)) ∧ w' = w := by
  have e : IntKind.i64.wrap ((n : Int).tmod 16) = ((n % 16 : Nat) : Int) := by
    rw [Int.tmod_eq_emod_of_nonneg (by omega), show (n : Int) % 16 = ((n % 16 : Nat) : Int) by omega]
    exact i64_id (by omega) (by omega)
  go_enter Try.func37, Try.ntmps37
  go_wp2
  go_ret
  exact ⟨rfl, rfl⟩
theorem first_any (hk : k + ps.length ≤ 1000000) (w : World) (h : Rv B w b room k ps L) : Calls Try.prog 38 #[.pointer (some ⟨b, 0, none⟩)] w fun x w' => x = .returned (.int .i64 ((k + 1 : Nat) : Int)) ∧ w'.heap = w.heap ∧ w'.os = w.os ∧ w'.tape = w.tape ∧ w'.output = w.output := by
  have c1 := h.c1
  have c2 := h.c2
  have hw1 : IntKind.i64.wrap (((k + ps.length : Nat) : Int) - (ps.length : Int)) = (k : Int) := by
    rw [show ((k + ps.length : Nat) : Int) - (ps.length : Int) = (k : Int) by omega]
    exact i64_id (by omega) (by omega)
  have hw2 : IntKind.i64.wrap ((k : Int) + 1) = ((k + 1 : Nat) : Int) := by
    rw [show (k : Int) + 1 = ((k + 1 : Nat) : Int) by omega]
    exact i64_id (by omega) (by omega)
  generalize ((k + 1 : Nat) : Int) = R at *
  generalize ((k + ps.length : Nat) : Int) = S at *
  generalize (ps.length : Int) = T at *
  clear h
  go_enter Try.func38, Try.ntmps38
  go_wp2_with fail
  go_quiet (fail)
  go_wp2
  go_ret
  exact ⟨rfl, rfl, rfl, rfl, rfl⟩
end
end Go.Proofs.Ytclobdejlihblaa.Rcv
