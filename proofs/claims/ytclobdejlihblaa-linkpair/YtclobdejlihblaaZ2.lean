/- A sender, as it lies there; New, Unacked, Clone; the document's New. -/
import Derived.Test.YtclobdejlihblaaZ1
import Derived.Test.YtclobdejlihblaaSH
import Derived.Deep.QuietTactic
import Derived.BigQuiet
namespace Go.Proofs.Ytclobdejlihblaa
open Go Go.RowKit
set_option maxRecDepth 20000
/-- What may stand: the bounds, and the pieces behind the first k. -/
structure Ok (win last : Int) (k : Nat) (ds : List ByteArray) : Prop where
  w1 : 1 ≤ win
  w2 : win ≤ 16
  l1 : 0 ≤ last
  l2 : last ≤ 1125899906842624
  len : (ds.length : Int) ≤ win
  all : ((k + ds.length : Nat) : Int) ≤ last
  sh : ∀ d ∈ ds, d.size ≤ 1000
/-- What an offer answers: the number, the error; and what then waits. -/
def offN (win last : Int) (k : Nat) (ds : List ByteArray) : Int := if win ≤ (ds.length : Int) then 0 else if last ≤ ((k + ds.length : Nat) : Int) then 0 else ((k + ds.length + 1 : Nat) : Int)
def offE (win last : Int) (k : Nat) (ds : List ByteArray) : Int := if win ≤ (ds.length : Int) then 7 else if last ≤ ((k + ds.length : Nat) : Int) then 8 else 0
def offD (win last : Int) (k : Nat) (ds : List ByteArray) (x : ByteArray) : List ByteArray := if win ≤ (ds.length : Int) then ds else if last ≤ ((k + ds.length : Nat) : Int) then ds else ds ++ [x]
/-- How many an acknowledgement takes away. -/
def ackM (k len : Nat) (n : Int) : Nat := if ((k + len : Nat) : Int) < n ∨ n ≤ (k : Int) then 0 else (n - (k : Int)).toNat
/-- In block b lies a sender, its pieces in the slice v. -/
structure Sn (B : Nat) (w : World) (b : Nat) (v : Value) (win last : Int) (k : Nat) (ds : List ByteArray) : Prop where
  lo : B ≤ b
  blk : w.heap[b]? = some (.cells #[.int .i64 win, .int .i64 last, .int .i64 ((k + ds.length : Nat) : Int), v] 81 (0, 0))
  row : PR B w v k ds
  ok : Ok win last k ds
section
variable {B : Nat} {w w' : World} {b : Nat} {v : Value} {win last : Int} {k : Nat} {ds : List ByteArray}
theorem Sn.c0 (h : Sn B w b v win last k ds) : w.cell? ⟨b, 0, none⟩ = some (.int .i64 win) := cell_at h.blk 0 _ rfl
theorem Sn.c1 (h : Sn B w b v win last k ds) : w.cell? ⟨b, 1, none⟩ = some (.int .i64 last) := cell_at h.blk 1 _ rfl
theorem Sn.c2 (h : Sn B w b v win last k ds) : w.cell? ⟨b, 2, none⟩ = some (.int .i64 ((k + ds.length : Nat) : Int)) := cell_at h.blk 2 _ rfl
theorem Sn.c3 (h : Sn B w b v win last k ds) : w.cell? ⟨b, 3, none⟩ = some v := cell_at h.blk 3 _ rfl
theorem Sn.f0 (h : Sn B w b v win last k ds) (i : Nat) : w.frozen? ⟨b, i, none⟩ = false := by have := h.blk; simp [World.frozen?, this]
theorem Sn.lt (h : Sn B w b v win last k ds) : b < w.heap.size := (Array.getElem?_eq_some_iff.1 h.blk).1
theorem Sn.same (h : Sn B w b v win last k ds) (hb : w'.heap[b]? = w.heap[b]?) (hv : ∀ j, v.ownBlock = some j → w'.heap[j]? = w.heap[j]?) : Sn B w' b v win last k ds := ⟨h.lo, hb.trans h.blk, h.row.kept hv, h.ok⟩
theorem Sn.next (h : Sn B w b v win last k ds) (hb : Below w.heap.size w w') : Sn B w' b v win last k ds := h.same (hb.block b h.lt) (fun j hj => hb.block j (h.row.lt j hj).2)
theorem Sn.drew (h : Sn B w b v win last k ds) : Sn B w.drew b v win last k ds := ⟨h.lo, h.blk, h.row, h.ok⟩
theorem Sn.lower {B' : Nat} (h : Sn B w b v win last k ds) (hB : B' ≤ B) : Sn B' w b v win last k ds := ⟨Nat.le_trans hB h.lo, h.blk, h.row.lower hB, h.ok⟩
theorem PR.typ (h : PR B w v k ds) (j : Nat) (hj : v.ownBlock = some j) : ∃ cur, w.heap[j]? = some (.cells cur 84 (0, 0)) := by
  rcases h with ⟨rfl, _⟩ | ⟨g, off, cap, cur, rfl, _, hg, _⟩
  · cases hj
  · simp only [Value.ownBlock, Option.some.injEq] at hj
    subst hj
    exact ⟨cur, hg⟩
end
/-- Two blocks of unlike types are two. -/
theorem two_types {w : World} {i j : Nat} {c c' : Array Value} {t t' : TypeId} {f f' : Nat × Nat} (h : w.heap[i]? = some (.cells c t f)) (h' : w.heap[j]? = some (.cells c' t' f')) (ht : t ≠ t') : i ≠ j := fun e => by
  subst e
  rw [h] at h'
  injection h' with h'
  injection h' with _ h' _
  exact ht h'
set_option maxHeartbeats 400000 in
theorem clone_any (s : ByteArray) (hs : s.size ≤ 140737488355328) (w : World) : Calls Try.prog 45 #[.string s] w fun x w' => x = .returned (.string s) ∧ Below w.heap.size w w' := by
  go_enter Try.func45, Try.ntmps45
  go_wp2_with fail
  refine (liteClone s hs _).mono ?_
  rintro x w1 ⟨rfl, hb⟩
  have HB := Lib.hid hb
  clear hb
  go_wp2
  go_ret
  exact ⟨rfl, HB.out⟩
theorem nearest_any (n lo hi : Int) (w : World) : Calls Try.prog 48 #[.int .i64 n, .int .i64 lo, .int .i64 hi] w fun x w' => x = .returned (.int .i64 (min (max n lo) hi)) ∧ w = w' := by
  go_enter Try.func48, Try.ntmps48
  go_wp2
  go_ret
  exact ⟨rfl, rfl⟩
theorem clamp_any (n lo hi : Int) (hlh : lo ≤ hi) (w : World) : Calls Try.prog 49 #[.int .i64 n, .int .i64 lo, .int .i64 hi] w fun x w' => x = .returned (.int .i64 (min (max n lo) hi)) ∧ w = w' := by
  by_cases h1 : n < lo
  · have e : min (max n lo) hi = lo := by omega
    rw [e]
    go_enter Try.func49, Try.ntmps49
    go_wp2
    go_ret
    exact ⟨rfl, rfl⟩
  by_cases h2 : hi < n
  · have e : min (max n lo) hi = hi := by omega
    rw [e]
    go_enter Try.func49, Try.ntmps49
    go_wp2
    go_ret
    exact ⟨rfl, rfl⟩
  have e : min (max n lo) hi = n := by omega
  rw [e]
  go_enter Try.func49, Try.ntmps49
  go_wp2
  go_ret
  exact ⟨rfl, rfl⟩
/-- The window and the greatest number that count. -/
def winOf (a : Int) : Int := min (max a 1) 16
def lastOf (a : Int) : Int := min (max a 0) 1125899906842624
theorem ok_new (a c : Int) : Ok (winOf a) (lastOf c) 0 [] := by
  unfold winOf lastOf
  exact ⟨by omega, by omega, by omega, by omega, by simp only [List.length_nil]; omega, by simp only [List.length_nil]; omega, fun d hd => by cases hd⟩
set_option maxHeartbeats 400000 in
theorem new_any (a c : Int) (w : World) : Calls Try.prog 41 #[.int .i64 a, .int .i64 c] w fun x w' => x = .returned (.pointer (some ⟨w.heap.size, 0, none⟩)) ∧ Sn w.heap.size w' w.heap.size (.slice none 0 0) (winOf a) (lastOf c) 0 [] ∧ Below w.heap.size w w' := by
  have HO := Lib.hid (ok_new a c)
  have H1 := fun w => Lib.hid (nearest_any a 1 16 w)
  have H2 := fun w => Lib.hid (nearest_any c 0 1125899906842624 w)
  unfold winOf lastOf at *
  generalize min (max a 1) 16 = p at *
  generalize min (max c 0) 1125899906842624 = q at *
  go_enter Try.func41, Try.ntmps41
  go_wp2_with fail
  refine (H1 _).out.mono ?_
  rintro x w1 ⟨rfl, rfl⟩
  go_wp2_with fail
  refine (H2 _).out.mono ?_
  rintro x w1 ⟨rfl, rfl⟩
  go_wp2
  go_ret
  exact ⟨rfl, ⟨Nat.le_refl _, heap_alloc_new _ _, .inl ⟨rfl, rfl⟩, HO.out⟩, Joins.below_alloc1 _ _⟩
theorem unacked_any {B : Nat} {b : Nat} {v : Value} {win last : Int} {k : Nat} {ds : List ByteArray} (w : World) (h : Sn B w b v win last k ds) : Calls Try.prog 21 #[.pointer (some ⟨b, 0, none⟩)] w fun x w' => x = .returned (.int .i64 (ds.length : Int)) ∧ w' = w := by
  obtain ⟨a, c, rfl, _⟩ := h.row.is
  have c3 := h.c3
  generalize ds.length = L at *
  clear h
  go_enter Try.func21, Try.ntmps21
  go_wp2
  go_ret
  exact ⟨rfl, rfl⟩
end Go.Proofs.Ytclobdejlihblaa
