import Derived.Test.YtbbgibekplfacaaDoorI4
import Derived.WalkKit
import Derived.Laws.BytesArg
import Derived.Test.YtbbgibekplfacaaDoorProg
import Derived.Lib.Hide
import Derived.Handy
/- Plain mathematics of prefix numbers: bytes, sizes. Nothing of the program. -/
namespace Go.Proofs.YtbbgibekplfacaaDoor.X
open Go

/-- v with its lowest k bytes struck. -/
def sh : Nat → Int → Int
  | 0, v => v
  | k + 1, v => sh k v / 256
/-- The k lowest bytes of v, the highest first. -/
def be : Nat → Int → List Int
  | 0, _ => []
  | k + 1, v => (sh k v % 256) :: be k v
theorem be_length (k : Nat) (v : Int) : (be k v).length = k := by
  induction k with
  | zero => rfl
  | succ k ih => simp [be, ih]
theorem sh_bd (k : Nat) (v : Int) (h : 0 ≤ v) : 0 ≤ sh k v ∧ sh k v ≤ v := by
  induction k with
  | zero => exact ⟨h, Int.le_refl _⟩
  | succ k ih => simp only [sh]; omega

/-- The cells of a row of s bytes of which the k last ones are written. -/
def row (j k : Nat) (v : Int) : List Value := List.replicate j (.int .u8 0) ++ (be k v).map (Value.int .u8)
theorem row_length (j k : Nat) (v : Int) : (row j k v).length = j + k := by simp [row, be_length]
theorem row_set (i k : Nat) (v : Int) : (row (i + 1) k v).set i (.int .u8 (sh k v % 256)) = row i (k + 1) v := by
  unfold row
  rw [List.replicate_succ', List.append_assoc, List.set_append]
  simp [be]

theorem or_join (i : Nat) (x y : Int) (hx0 : 0 ≤ x) (hx : x % 2 ^ i = 0) (hy0 : 0 ≤ y) (hy : y < 2 ^ i) (hx1 : x < 18446744073709551616) (hy1 : y < 18446744073709551616) : bits .or .u64 x y = x + y := by
  rw [u64_or x y hx0 hx1 hy0 hy1, nat_join i]
  · omega
  · have : ((x.toNat % 2 ^ i : Nat) : Int) = 0 := by
      rw [Int.natCast_emod, Int.toNat_of_nonneg hx0]; simpa using hx
    omega
  · have : ((y.toNat : Nat) : Int) < ((2 ^ i : Nat) : Int) := by
      rw [Int.toNat_of_nonneg hy0]; simpa using hy
    omega
end Go.Proofs.YtbbgibekplfacaaDoor.X
/- The contracts of ownBits, tagOf and Size. -/
namespace Go.Proofs.YtbbgibekplfacaaDoor.X
open Go Go.RowKit

/-- The table of widths lies as the program's text lays it. -/
structure Wd (w : World) : Prop where
  c0 : w.cell? ⟨0, 0, none⟩ = some (.int .i64 1)
  c1 : w.cell? ⟨0, 1, none⟩ = some (.int .i64 2)
  c2 : w.cell? ⟨0, 2, none⟩ = some (.int .i64 4)
  c3 : w.cell? ⟨0, 3, none⟩ = some (.int .i64 8)
  pos : 0 < w.heap.size

theorem Wd.below {w w' : World} (h : Wd w) (b : Below w.heap.size w w') : Wd w' :=
  ⟨(b.cell h.pos).trans h.c0, (b.cell h.pos).trans h.c1, (b.cell h.pos).trans h.c2, (b.cell h.pos).trans h.c3, Nat.lt_of_lt_of_le h.pos b.size⟩

theorem own0 (w : World) (h : Wd w) : Calls Tryd.prog 106 #[.int .i64 0] w fun e w' => e = .returned (.int .u64 6) ∧ w = w' := by
  have h0 := h.c0
  go_enter Tryd.func106, Tryd.ntmps106
  go_wp2
  go_ret
  exact ⟨rfl, rfl⟩
theorem own1 (w : World) (h : Wd w) : Calls Tryd.prog 106 #[.int .i64 1] w fun e w' => e = .returned (.int .u64 14) ∧ w = w' := by
  have h0 := h.c1
  go_enter Tryd.func106, Tryd.ntmps106
  go_wp2
  go_ret
  exact ⟨rfl, rfl⟩
theorem own2 (w : World) (h : Wd w) : Calls Tryd.prog 106 #[.int .i64 2] w fun e w' => e = .returned (.int .u64 30) ∧ w = w' := by
  have h0 := h.c2
  go_enter Tryd.func106, Tryd.ntmps106
  go_wp2
  go_ret
  exact ⟨rfl, rfl⟩
theorem own3 (w : World) (h : Wd w) : Calls Tryd.prog 106 #[.int .i64 3] w fun e w' => e = .returned (.int .u64 62) ∧ w = w' := by
  have h0 := h.c3
  go_enter Tryd.func106, Tryd.ntmps106
  go_wp2
  go_ret
  exact ⟨rfl, rfl⟩
set_option maxHeartbeats 400000 in
theorem tag0 (n : Int) (h1 : 0 ≤ n) (h2 : n < 64) (w : World) (h : Wd w) : Calls Tryd.prog 105 #[.int .u64 n] w fun e w' => e = .returned (.tuple #[.int .i64 0, .bool true]) ∧ w = w' := by
  have c0 := h.c0
  have k0 : (n / 64 == 0) = true := by rw [beq_iff_eq]; omega
  go_enter Tryd.func105, Tryd.ntmps105
  go_wp2
  go_rounds 1
  go_ret2
  exact ⟨rfl, rfl⟩
set_option maxHeartbeats 400000 in
theorem tag1 (n : Int) (h1 : 64 ≤ n) (h2 : n < 16384) (w : World) (h : Wd w) : Calls Tryd.prog 105 #[.int .u64 n] w fun e w' => e = .returned (.tuple #[.int .i64 1, .bool true]) ∧ w = w' := by
  have c0 := h.c0
  have c1 := h.c1
  have k0 : (n / 64 == 0) = false := by rw [beq_eq_false_iff_ne]; omega
  have k1 : (n / 16384 == 0) = true := by rw [beq_iff_eq]; omega
  go_enter Tryd.func105, Tryd.ntmps105
  go_wp2
  go_rounds 2
  go_ret2
  exact ⟨rfl, rfl⟩
set_option maxHeartbeats 400000 in
theorem tag2 (n : Int) (h1 : 16384 ≤ n) (h2 : n < 1073741824) (w : World) (h : Wd w) : Calls Tryd.prog 105 #[.int .u64 n] w fun e w' => e = .returned (.tuple #[.int .i64 2, .bool true]) ∧ w = w' := by
  have c0 := h.c0
  have c1 := h.c1
  have c2 := h.c2
  have k0 : (n / 64 == 0) = false := by rw [beq_eq_false_iff_ne]; omega
  have k1 : (n / 16384 == 0) = false := by rw [beq_eq_false_iff_ne]; omega
  have k2 : (n / 1073741824 == 0) = true := by rw [beq_iff_eq]; omega
  go_enter Tryd.func105, Tryd.ntmps105
  go_wp2
  go_rounds 3
  go_ret2
  exact ⟨rfl, rfl⟩
set_option maxHeartbeats 400000 in
theorem tag3 (n : Int) (h1 : 1073741824 ≤ n) (h2 : n < 4611686018427387904) (w : World) (h : Wd w) : Calls Tryd.prog 105 #[.int .u64 n] w fun e w' => e = .returned (.tuple #[.int .i64 3, .bool true]) ∧ w = w' := by
  have c0 := h.c0
  have c1 := h.c1
  have c2 := h.c2
  have c3 := h.c3
  have k0 : (n / 64 == 0) = false := by rw [beq_eq_false_iff_ne]; omega
  have k1 : (n / 16384 == 0) = false := by rw [beq_eq_false_iff_ne]; omega
  have k2 : (n / 1073741824 == 0) = false := by rw [beq_eq_false_iff_ne]; omega
  have k3 : (n / 4611686018427387904 == 0) = true := by rw [beq_iff_eq]; omega
  go_enter Tryd.func105, Tryd.ntmps105
  go_wp2
  go_rounds 4
  go_ret2
  exact ⟨rfl, rfl⟩
set_option maxHeartbeats 400000 in
theorem tagN (n : Int) (h1 : 4611686018427387904 ≤ n) (w : World) (h : Wd w) : Calls Tryd.prog 105 #[.int .u64 n] w fun e w' => e = .returned (.tuple #[.int .i64 0, .bool false]) ∧ w = w' := by
  have c0 := h.c0
  have c1 := h.c1
  have c2 := h.c2
  have c3 := h.c3
  have k0 : (n / 64 == 0) = false := by rw [beq_eq_false_iff_ne]; omega
  have k1 : (n / 16384 == 0) = false := by rw [beq_eq_false_iff_ne]; omega
  have k2 : (n / 1073741824 == 0) = false := by rw [beq_eq_false_iff_ne]; omega
  have k3 : (n / 4611686018427387904 == 0) = false := by rw [beq_eq_false_iff_ne]; omega
  go_enter Tryd.func105, Tryd.ntmps105
  go_wp2
  go_rounds 5
  go_ret2
  exact ⟨rfl, rfl⟩
set_option maxHeartbeats 400000 in
theorem size0 (n : Int) (h1 : 0 ≤ n) (h2 : n < 64) (w : World) (h : Wd w) : Calls Tryd.prog 107 #[.int .u64 n] w fun e w' => e = .returned (.int .i64 1) ∧ w = w' := by
  have c0 := h.c0
  go_enter Tryd.func107, Tryd.ntmps107
  go_wp2_with fail
  refine (tag0 n h1 h2 _ h).mono ?_
  rintro e w1 ⟨rfl, rfl⟩
  go_wp2
  go_ret
  exact ⟨rfl, rfl⟩
set_option maxHeartbeats 400000 in
theorem size1 (n : Int) (h1 : 64 ≤ n) (h2 : n < 16384) (w : World) (h : Wd w) : Calls Tryd.prog 107 #[.int .u64 n] w fun e w' => e = .returned (.int .i64 2) ∧ w = w' := by
  have c1 := h.c1
  go_enter Tryd.func107, Tryd.ntmps107
  go_wp2_with fail
  refine (tag1 n h1 h2 _ h).mono ?_
  rintro e w1 ⟨rfl, rfl⟩
  go_wp2
  go_ret
  exact ⟨rfl, rfl⟩
set_option maxHeartbeats 400000 in
theorem size2 (n : Int) (h1 : 16384 ≤ n) (h2 : n < 1073741824) (w : World) (h : Wd w) : Calls Tryd.prog 107 #[.int .u64 n] w fun e w' => e = .returned (.int .i64 4) ∧ w = w' := by
  have c2 := h.c2
  go_enter Tryd.func107, Tryd.ntmps107
  go_wp2_with fail
  refine (tag2 n h1 h2 _ h).mono ?_
  rintro e w1 ⟨rfl, rfl⟩
  go_wp2
  go_ret
  exact ⟨rfl, rfl⟩
set_option maxHeartbeats 400000 in
theorem size3 (n : Int) (h1 : 1073741824 ≤ n) (h2 : n < 4611686018427387904) (w : World) (h : Wd w) : Calls Tryd.prog 107 #[.int .u64 n] w fun e w' => e = .returned (.int .i64 8) ∧ w = w' := by
  have c3 := h.c3
  go_enter Tryd.func107, Tryd.ntmps107
  go_wp2_with fail
  refine (tag3 n h1 h2 _ h).mono ?_
  rintro e w1 ⟨rfl, rfl⟩
  go_wp2
  go_ret
  exact ⟨rfl, rfl⟩
set_option maxHeartbeats 400000 in
theorem sizeN (n : Int) (h1 : 4611686018427387904 ≤ n) (w : World) (h : Wd w) : Calls Tryd.prog 107 #[.int .u64 n] w fun e w' => e = .returned (.int .i64 0) ∧ w = w' := by
  go_enter Tryd.func107, Tryd.ntmps107
  go_wp2_with fail
  refine (tagN n h1 _ h).mono ?_
  rintro e w1 ⟨rfl, rfl⟩
  go_wp2
  go_ret
  exact ⟨rfl, rfl⟩
end Go.Proofs.YtbbgibekplfacaaDoor.X
/- The contract of Put. -/
namespace Go.Proofs.YtbbgibekplfacaaDoor.X
open Go Go.RowKit
theorem info5 : (Tryd.prog.info? 5).map (fun i => (i.zero, i.size, i.bytes)) = some (some (.int .u8 0), 1, 1) := by kernel_rfl

set_option maxHeartbeats 800000 in
theorem put0 (n : Int) (h1 : 0 ≤ n) (h2 : n < 64) (w : World) (h : Wd w) : Calls Tryd.prog 95 #[.int .u64 n] w fun e w' => e = .returned (.tuple #[.string (strOfNums (be 1 n)), .int .i64 0]) ∧ Below w.heap.size w w' := by
  have c0 := h.c0
  obtain ⟨i0, hi, hz0, hz1, hz2⟩ := info_parts info5
  have hor : bits .or .u64 0 n = n := by rw [or_join 6 _ _ (by omega) (by omega) (by omega) (by omega) (by omega) (by omega)]; simp
  go_enter Tryd.func95, Tryd.ntmps95
  go_wp2_with fail
  refine (tag0 n h1 h2 _ h).mono ?_
  rintro e w1 ⟨rfl, rfl⟩
  go_wp2_with fail
  refine (own0 _ h).mono ?_
  rintro e w1 ⟨rfl, rfl⟩
  go_wp2_with (at_make; refine wpList_make_full _ rfl _ _ 113 rfl w.heap.size 5 i0 (.int .u8 0) 1 Tryd.underlying113 hi hz0 hz1 _ _ _ _ 1 rfl rfl rfl rfl (by omega) (by decide) (Nat.le_refl _) ?_)
  intro w1 hown hgrow
  have hb0 : Below w.heap.size w w1 := (Below.refl _ _).grown hgrow (Nat.le_refl _) (fun _ h => by cases h)
  rw [toList_madeCells_one] at hown
  have HOWN := Lib.hid hown
  clear hown hgrow hor
  go_wp2_with fail
  go_loopw [6, 8] (fun v6 v8 wr => ∃ j k : Nat, j + k = 1 ∧ v6 = .int .u64 (sh k n) ∧ v8 = .int .i64 ((j : Int) - 1) ∧ wr.ownsRow w.heap.size 5 1 (.slice (some ⟨w.heap.size, 0, none⟩) 1 1) 1 (row j k n) ∧ Below w.heap.size w wr) (fun _ v8 _ => (intOf v8 + 1).toNat)
  case atStart => exact ⟨1, 0, rfl, rfl, rfl, by simpa [row, be] using HOWN.out, hb0⟩
  case round =>
    obtain ⟨j, k, hjk, rfl, rfl, hown, hbel⟩ := hrel
    have hsb := sh_bd k n (by omega)
    rcases j with _ | i
    · obtain rfl : k = 1 := by omega
      have hconv := run_convert_bytes_arg (P := Tryd.prog) wr 113 5 Tryd.underlying113 Tryd.underlying5 w.heap.size 0 1 1 (be 1 n) (be_length _ _) (fun i hi => by
        have hl := be_length 1 n
        rw [Nat.zero_add, hown.cellAt i (by omega)]
        simp only [row, List.replicate_zero, List.nil_append, List.getElem?_map, List.getD_eq_getElem?_getD]
        rw [List.getElem?_eq_getElem (by omega)]; rfl) 9 Tryd.underlying9
      clear hown hjk HOWN
      go_wp2
      go_ret2
      exact ⟨rfl, hbel⟩
    · have hst := hown.stored i (.int .u8 (sh k n % 256))
      rw [row_set] at hst
      have HST := Lib.hid hst
      have hf := hown.frozenAt i
      have hc : wr.cell? ⟨w.heap.size, i, none⟩ = some (.int .u8 0) := by rw [hown.cellAt i (by omega)]; simp [row, List.getElem?_append]
      have e1 : ((i + 1 : Nat) : Int) - 1 = (i : Int) := by omega
      rw [e1]
      have hi2 : i < 1 := by omega
      have HJK := Lib.hid hjk
      clear hst hown e1 hjk HOWN
      go_wp2
      go_roundw
      case rel => exact ⟨i, k + 1, by have := HJK.out; omega, by rw [sh], rfl, (by have hq := HST.out.1; rwa [Int.emod_eq_of_lt (by omega) (by omega)] at hq), hbel.setCell (Nat.le_refl _) _⟩
      case measure => simp [intOf]

set_option maxHeartbeats 800000 in
theorem put1 (n : Int) (h1 : 64 ≤ n) (h2 : n < 16384) (w : World) (h : Wd w) : Calls Tryd.prog 95 #[.int .u64 n] w fun e w' => e = .returned (.tuple #[.string (strOfNums (be 2 (16384 + n))), .int .i64 0]) ∧ Below w.heap.size w w' := by
  have c1 := h.c1
  obtain ⟨i0, hi, hz0, hz1, hz2⟩ := info_parts info5
  have hor : bits .or .u64 16384 n = (16384 + n) := by rw [or_join 14 _ _ (by omega) (by omega) (by omega) (by omega) (by omega) (by omega)]
  go_enter Tryd.func95, Tryd.ntmps95
  go_wp2_with fail
  refine (tag1 n h1 h2 _ h).mono ?_
  rintro e w1 ⟨rfl, rfl⟩
  go_wp2_with fail
  refine (own1 _ h).mono ?_
  rintro e w1 ⟨rfl, rfl⟩
  go_wp2_with (at_make; refine wpList_make_full _ rfl _ _ 113 rfl w.heap.size 5 i0 (.int .u8 0) 1 Tryd.underlying113 hi hz0 hz1 _ _ _ _ 2 rfl rfl rfl rfl (by omega) (by decide) (Nat.le_refl _) ?_)
  intro w1 hown hgrow
  have hb0 : Below w.heap.size w w1 := (Below.refl _ _).grown hgrow (Nat.le_refl _) (fun _ h => by cases h)
  rw [toList_madeCells_one] at hown
  have HOWN := Lib.hid hown
  clear hown hgrow hor
  go_wp2_with fail
  go_loopw [6, 8] (fun v6 v8 wr => ∃ j k : Nat, j + k = 2 ∧ v6 = .int .u64 (sh k (16384 + n)) ∧ v8 = .int .i64 ((j : Int) - 1) ∧ wr.ownsRow w.heap.size 5 1 (.slice (some ⟨w.heap.size, 0, none⟩) 2 2) 2 (row j k (16384 + n)) ∧ Below w.heap.size w wr) (fun _ v8 _ => (intOf v8 + 1).toNat)
  case atStart => exact ⟨2, 0, rfl, rfl, rfl, by simpa [row, be] using HOWN.out, hb0⟩
  case round =>
    obtain ⟨j, k, hjk, rfl, rfl, hown, hbel⟩ := hrel
    have hsb := sh_bd k (16384 + n) (by omega)
    rcases j with _ | i
    · obtain rfl : k = 2 := by omega
      have hconv := run_convert_bytes_arg (P := Tryd.prog) wr 113 5 Tryd.underlying113 Tryd.underlying5 w.heap.size 0 2 2 (be 2 (16384 + n)) (be_length _ _) (fun i hi => by
        have hl := be_length 2 (16384 + n)
        rw [Nat.zero_add, hown.cellAt i (by omega)]
        simp only [row, List.replicate_zero, List.nil_append, List.getElem?_map, List.getD_eq_getElem?_getD]
        rw [List.getElem?_eq_getElem (by omega)]; rfl) 9 Tryd.underlying9
      clear hown hjk HOWN
      go_wp2
      go_ret2
      exact ⟨rfl, hbel⟩
    · have hst := hown.stored i (.int .u8 (sh k (16384 + n) % 256))
      rw [row_set] at hst
      have HST := Lib.hid hst
      have hf := hown.frozenAt i
      have hc : wr.cell? ⟨w.heap.size, i, none⟩ = some (.int .u8 0) := by rw [hown.cellAt i (by omega)]; simp [row, List.getElem?_append]
      have e1 : ((i + 1 : Nat) : Int) - 1 = (i : Int) := by omega
      rw [e1]
      have hi2 : i < 2 := by omega
      have HJK := Lib.hid hjk
      clear hst hown e1 hjk HOWN
      go_wp2
      go_roundw
      case rel => exact ⟨i, k + 1, by have := HJK.out; omega, by rw [sh], rfl, HST.out.1, hbel.setCell (Nat.le_refl _) _⟩
      case measure => simp [intOf]

set_option maxHeartbeats 800000 in
theorem put2 (n : Int) (h1 : 16384 ≤ n) (h2 : n < 1073741824) (w : World) (h : Wd w) : Calls Tryd.prog 95 #[.int .u64 n] w fun e w' => e = .returned (.tuple #[.string (strOfNums (be 4 (2147483648 + n))), .int .i64 0]) ∧ Below w.heap.size w w' := by
  have c2 := h.c2
  obtain ⟨i0, hi, hz0, hz1, hz2⟩ := info_parts info5
  have hor : bits .or .u64 2147483648 n = (2147483648 + n) := by rw [or_join 30 _ _ (by omega) (by omega) (by omega) (by omega) (by omega) (by omega)]
  go_enter Tryd.func95, Tryd.ntmps95
  go_wp2_with fail
  refine (tag2 n h1 h2 _ h).mono ?_
  rintro e w1 ⟨rfl, rfl⟩
  go_wp2_with fail
  refine (own2 _ h).mono ?_
  rintro e w1 ⟨rfl, rfl⟩
  go_wp2_with (at_make; refine wpList_make_full _ rfl _ _ 113 rfl w.heap.size 5 i0 (.int .u8 0) 1 Tryd.underlying113 hi hz0 hz1 _ _ _ _ 4 rfl rfl rfl rfl (by omega) (by decide) (Nat.le_refl _) ?_)
  intro w1 hown hgrow
  have hb0 : Below w.heap.size w w1 := (Below.refl _ _).grown hgrow (Nat.le_refl _) (fun _ h => by cases h)
  rw [toList_madeCells_one] at hown
  have HOWN := Lib.hid hown
  clear hown hgrow hor
  go_wp2_with fail
  go_loopw [6, 8] (fun v6 v8 wr => ∃ j k : Nat, j + k = 4 ∧ v6 = .int .u64 (sh k (2147483648 + n)) ∧ v8 = .int .i64 ((j : Int) - 1) ∧ wr.ownsRow w.heap.size 5 1 (.slice (some ⟨w.heap.size, 0, none⟩) 4 4) 4 (row j k (2147483648 + n)) ∧ Below w.heap.size w wr) (fun _ v8 _ => (intOf v8 + 1).toNat)
  case atStart => exact ⟨4, 0, rfl, rfl, rfl, by simpa [row, be] using HOWN.out, hb0⟩
  case round =>
    obtain ⟨j, k, hjk, rfl, rfl, hown, hbel⟩ := hrel
    have hsb := sh_bd k (2147483648 + n) (by omega)
    rcases j with _ | i
    · obtain rfl : k = 4 := by omega
      have hconv := run_convert_bytes_arg (P := Tryd.prog) wr 113 5 Tryd.underlying113 Tryd.underlying5 w.heap.size 0 4 4 (be 4 (2147483648 + n)) (be_length _ _) (fun i hi => by
        have hl := be_length 4 (2147483648 + n)
        rw [Nat.zero_add, hown.cellAt i (by omega)]
        simp only [row, List.replicate_zero, List.nil_append, List.getElem?_map, List.getD_eq_getElem?_getD]
        rw [List.getElem?_eq_getElem (by omega)]; rfl) 9 Tryd.underlying9
      clear hown hjk HOWN
      go_wp2
      go_ret2
      exact ⟨rfl, hbel⟩
    · have hst := hown.stored i (.int .u8 (sh k (2147483648 + n) % 256))
      rw [row_set] at hst
      have HST := Lib.hid hst
      have hf := hown.frozenAt i
      have hc : wr.cell? ⟨w.heap.size, i, none⟩ = some (.int .u8 0) := by rw [hown.cellAt i (by omega)]; simp [row, List.getElem?_append]
      have e1 : ((i + 1 : Nat) : Int) - 1 = (i : Int) := by omega
      rw [e1]
      have hi2 : i < 4 := by omega
      have HJK := Lib.hid hjk
      clear hst hown e1 hjk HOWN
      go_wp2
      go_roundw
      case rel => exact ⟨i, k + 1, by have := HJK.out; omega, by rw [sh], rfl, HST.out.1, hbel.setCell (Nat.le_refl _) _⟩
      case measure => simp [intOf]

set_option maxHeartbeats 800000 in
theorem put3 (n : Int) (h1 : 1073741824 ≤ n) (h2 : n < 4611686018427387904) (w : World) (h : Wd w) : Calls Tryd.prog 95 #[.int .u64 n] w fun e w' => e = .returned (.tuple #[.string (strOfNums (be 8 (13835058055282163712 + n))), .int .i64 0]) ∧ Below w.heap.size w w' := by
  have c3 := h.c3
  obtain ⟨i0, hi, hz0, hz1, hz2⟩ := info_parts info5
  have hor : bits .or .u64 13835058055282163712 n = (13835058055282163712 + n) := by rw [or_join 62 _ _ (by omega) (by omega) (by omega) (by omega) (by omega) (by omega)]
  go_enter Tryd.func95, Tryd.ntmps95
  go_wp2_with fail
  refine (tag3 n h1 h2 _ h).mono ?_
  rintro e w1 ⟨rfl, rfl⟩
  go_wp2_with fail
  refine (own3 _ h).mono ?_
  rintro e w1 ⟨rfl, rfl⟩
  go_wp2_with (at_make; refine wpList_make_full _ rfl _ _ 113 rfl w.heap.size 5 i0 (.int .u8 0) 1 Tryd.underlying113 hi hz0 hz1 _ _ _ _ 8 rfl rfl rfl rfl (by omega) (by decide) (Nat.le_refl _) ?_)
  intro w1 hown hgrow
  have hb0 : Below w.heap.size w w1 := (Below.refl _ _).grown hgrow (Nat.le_refl _) (fun _ h => by cases h)
  rw [toList_madeCells_one] at hown
  have HOWN := Lib.hid hown
  clear hown hgrow hor
  go_wp2_with fail
  go_loopw [6, 8] (fun v6 v8 wr => ∃ j k : Nat, j + k = 8 ∧ v6 = .int .u64 (sh k (13835058055282163712 + n)) ∧ v8 = .int .i64 ((j : Int) - 1) ∧ wr.ownsRow w.heap.size 5 1 (.slice (some ⟨w.heap.size, 0, none⟩) 8 8) 8 (row j k (13835058055282163712 + n)) ∧ Below w.heap.size w wr) (fun _ v8 _ => (intOf v8 + 1).toNat)
  case atStart => exact ⟨8, 0, rfl, rfl, rfl, by simpa [row, be] using HOWN.out, hb0⟩
  case round =>
    obtain ⟨j, k, hjk, rfl, rfl, hown, hbel⟩ := hrel
    have hsb := sh_bd k (13835058055282163712 + n) (by omega)
    rcases j with _ | i
    · obtain rfl : k = 8 := by omega
      have hconv := run_convert_bytes_arg (P := Tryd.prog) wr 113 5 Tryd.underlying113 Tryd.underlying5 w.heap.size 0 8 8 (be 8 (13835058055282163712 + n)) (be_length _ _) (fun i hi => by
        have hl := be_length 8 (13835058055282163712 + n)
        rw [Nat.zero_add, hown.cellAt i (by omega)]
        simp only [row, List.replicate_zero, List.nil_append, List.getElem?_map, List.getD_eq_getElem?_getD]
        rw [List.getElem?_eq_getElem (by omega)]; rfl) 9 Tryd.underlying9
      clear hown hjk HOWN
      go_wp2
      go_ret2
      exact ⟨rfl, hbel⟩
    · have hst := hown.stored i (.int .u8 (sh k (13835058055282163712 + n) % 256))
      rw [row_set] at hst
      have HST := Lib.hid hst
      have hf := hown.frozenAt i
      have hc : wr.cell? ⟨w.heap.size, i, none⟩ = some (.int .u8 0) := by rw [hown.cellAt i (by omega)]; simp [row, List.getElem?_append]
      have e1 : ((i + 1 : Nat) : Int) - 1 = (i : Int) := by omega
      rw [e1]
      have hi2 : i < 8 := by omega
      have HJK := Lib.hid hjk
      clear hst hown e1 hjk HOWN
      go_wp2
      go_roundw
      case rel => exact ⟨i, k + 1, by have := HJK.out; omega, by rw [sh], rfl, HST.out.1, hbel.setCell (Nat.le_refl _) _⟩
      case measure => simp [intOf]

set_option maxHeartbeats 400000 in
theorem putN (n : Int) (h1 : 4611686018427387904 ≤ n) (w : World) (h : Wd w) : Calls Tryd.prog 95 #[.int .u64 n] w fun e w' => e = .returned (.tuple #[.string ⟨#[]⟩, .int .i64 1]) ∧ w = w' := by
  go_enter Tryd.func95, Tryd.ntmps95
  go_wp2_with fail
  refine (tagN n h1 _ h).mono ?_
  rintro e w1 ⟨rfl, rfl⟩
  go_wp2
  go_ret2
  exact ⟨rfl, rfl⟩
end Go.Proofs.YtbbgibekplfacaaDoor.X
/- Plain mathematics of reading prefix numbers. Nothing of the program. -/
namespace Go.Proofs.YtbbgibekplfacaaDoor.X
open Go

/-- The byte at a place, 0 behind the end. -/
def byt (s : ByteArray) (k : Nat) : Int := if h : k < s.size then (s[k].toNat : Int) else 0
theorem byt_bd (s : ByteArray) (k : Nat) : 0 ≤ byt s k ∧ byt s k ≤ 255 := by
  unfold byt
  split
  · have := (s[k]).toNat_lt; omega
  · omega
theorem byt_at (s : ByteArray) (k : Nat) (h : k < s.size) : (s[k].toNat : Int) = byt s k := by rw [byt, dif_pos h]
/-- The number that k bytes from the place a on hold, the first one without its two highest bits. -/
def un (s : ByteArray) (a : Nat) : Nat → Int
  | 0 => 0
  | 1 => byt s a % 64
  | k + 2 => un s a (k + 1) * 256 + byt s (a + (k + 1))
theorem un_succ (s : ByteArray) (a k : Nat) (h : 1 ≤ k) : un s a (k + 1) = un s a k * 256 + byt s (a + k) := by
  rcases k with _ | k
  · omega
  · rfl
theorem un_bd7 (s : ByteArray) (a k : Nat) (h : k < 8) : 0 ≤ un s a k ∧ un s a k < 18014398509481984 := by
  have b0 := byt_bd s a
  have b1 := byt_bd s (a + 1)
  have b2 := byt_bd s (a + 2)
  have b3 := byt_bd s (a + 3)
  have b4 := byt_bd s (a + 4)
  have b5 := byt_bd s (a + 5)
  have b6 := byt_bd s (a + 6)
  match k, h with
  | 0, _ => simp [un]
  | 1, _ => simp only [un]; omega
  | 2, _ => simp only [un, Nat.reduceAdd]; omega
  | 3, _ => simp only [un, Nat.reduceAdd]; omega
  | 4, _ => simp only [un, Nat.reduceAdd]; omega
  | 5, _ => simp only [un, Nat.reduceAdd]; omega
  | 6, _ => simp only [un, Nat.reduceAdd]; omega
  | 7, _ => simp only [un, Nat.reduceAdd]; omega
theorem un_bd (s : ByteArray) (a k : Nat) (h : k ≤ 8) : 0 ≤ un s a k ∧ un s a k < 4611686018427387904 := by
  rcases Nat.lt_or_ge k 8 with h' | h'
  · have := un_bd7 s a k h'; omega
  · obtain rfl : k = 8 := by omega
    have := un_bd7 s a 7 (by omega)
    have b := byt_bd s (a + 7)
    rw [un_succ s a 7 (by omega)]; omega
theorem byt_extract (s : ByteArray) (a b k : Nat) (hb : b ≤ s.size) (h : k < b - a) : byt (s.extract a b) k = byt s (a + k) := by
  unfold byt
  have h1 : k < (s.extract a b).size := by simp; omega
  have h2 : a + k < s.size := by omega
  rw [dif_pos h1, dif_pos h2, ByteArray.getElem_extract]
theorem un_extract (s : ByteArray) (a b : Nat) (hb : b ≤ s.size) : ∀ k, k ≤ b - a → un (s.extract a b) 0 k = un s a k
  | 0, _ => rfl
  | 1, h => by simp only [un]; rw [byt_extract s a b 0 hb (by omega)]; rfl
  | k + 2, h => by
    simp only [un]
    rw [un_extract s a b hb (k + 1) (by omega), Nat.zero_add, byt_extract s a b (k + 1) hb (by omega)]
theorem or_byte (x y : Int) (hx : 0 ≤ x) (hx1 : x < 18014398509481984) (hy : 0 ≤ y) (hy1 : y ≤ 255) : bits .or .u64 (x * 256) (IntKind.u64.wrap y) = x * 256 + y := by
  rw [show IntKind.u64.wrap y = y by rw [IntKind.wrap_u64]; omega]
  exact or_join 8 _ _ (by omega) (by omega) (by omega) (by omega) (by omega) (by omega)
theorem and63 (y : Int) (hy : 0 ≤ y) (hy1 : y ≤ 255) : IntKind.u64.wrap (bits .and .u8 y 63) = y % 64 := by
  rw [u8_and63 y hy (by omega), IntKind.wrap_u64]; omega
/-- How many bytes a number has whose first byte is c. -/
def wid (c : Int) : Nat := if c < 64 then 1 else if c < 128 then 2 else if c < 192 then 4 else 8
/-- The least number that has so many bytes. -/
def lo (k : Nat) : Int := if k = 1 then 0 else if k = 2 then 64 else if k = 4 then 16384 else 1073741824
/-- What stands at a place: the number, the place behind, an error. -/
def getS (s : ByteArray) (a : Int) : Int × Int × Int :=
  if a < 0 ∨ (s.size : Int) < a then (0, 0, 1)
  else if s.size < a.toNat + wid (byt s a.toNat) then (0, 0, 2)
  else if un s a.toNat (wid (byt s a.toNat)) < lo (wid (byt s a.toNat)) then (0, 0, 3)
  else (un s a.toNat (wid (byt s a.toNat)), a + wid (byt s a.toNat), 0)
theorem byt_end (s : ByteArray) (k : Nat) (h : s.size ≤ k) : byt s k = 0 := by rw [byt, dif_neg (by omega)]
theorem isEmpty_extract (s : ByteArray) (a : Nat) (h : a < s.size) : (s.extract a s.size).toList.isEmpty = false := by
  rw [ByteArray.toList_eq]
  have h3 : (s.extract a s.size).size = s.size - a := by simp
  cases hx : (s.extract a s.size).data.toList with
  | cons x l => rfl
  | nil =>
    have h2 : (s.extract a s.size).data.toList.length = 0 := by rw [hx]; rfl
    rw [Array.length_toList] at h2
    have h4 : (s.extract a s.size).data.size = (s.extract a s.size).size := rfl
    omega
theorem isEmpty_end (s : ByteArray) : (s.extract s.size s.size).toList.isEmpty = true := by
  rw [ByteArray.toList_eq]
  have h3 : (s.extract s.size s.size).data.size = 0 := by
    have : (s.extract s.size s.size).size = 0 := by simp
    exact this
  have h4 : (s.extract s.size s.size).data.toList = [] := List.eq_nil_of_length_eq_zero (by rw [Array.length_toList]; exact h3)
  rw [h4]; rfl
end Go.Proofs.YtbbgibekplfacaaDoor.X
/- The contract of untagged. -/
namespace Go.Proofs.YtbbgibekplfacaaDoor.X
open Go Go.RowKit
end Go.Proofs.YtbbgibekplfacaaDoor.X
