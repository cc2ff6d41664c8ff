/- A text's bits changed: plain; the program's changed. -/
import Derived.Test.YtjnjpphbclepbaaH4
import Derived.Laws.IdiomStrings
import Derived.Laws.BitsAll
import Derived.Laws.Shifts
namespace Go.Proofs.Ytjnjpphbclepbaa
open Go Go.RowKit
set_option maxRecDepth 20000
/-- Is that bit of the mask set, and is the bit that it names one of the text's? -/
def hit (bit : Int) (m len n : Nat) : Prop := m / 2 ^ n % 2 = 1 ∧ 0 ≤ bit + n ∧ bit + n < 8 * len
instance (bit : Int) (m len n : Nat) : Decidable (hit bit m len n) := by unfold hit; exact inferInstance
def flO (at_ : Nat) (l : List UInt8) : List UInt8 := l.set (at_ / 8) (l.getD (at_ / 8) 0 ^^^ UInt8.ofNat (2 ^ (at_ % 8)))
def fl1 (bit : Int) (m n : Nat) (l : List UInt8) : List UInt8 := if hit bit m l.length n then flO (bit + n).toNat l else l
def flN (bit : Int) (m : Nat) : Nat → List UInt8 → List UInt8
  | 0, l => l
  | k + 1, l => fl1 bit m k (flN bit m k l)
theorem fl1_len (bit : Int) (m n : Nat) (l : List UInt8) : (fl1 bit m n l).length = l.length := by
  unfold fl1 flO; split <;> simp
theorem flN_len (bit : Int) (m : Nat) : ∀ (k : Nat) (l : List UInt8), (flN bit m k l).length = l.length
  | 0, _ => rfl
  | k + 1, l => by rw [flN, fl1_len, flN_len bit m k l]
/-- The text with its bits changed. -/
def flp (s : ByteArray) (bit : Int) (m : Nat) : ByteArray := ⟨(flN bit m 32 s.data.toList).toArray⟩
theorem flp_size (s : ByteArray) (bit : Int) (m : Nat) : (flp s bit m).size = s.size := by
  show ((flN bit m 32 s.data.toList).toArray).size = s.data.size
  rw [List.size_toArray, flN_len, Array.length_toList]
/-- The bytes lie there. -/
structure By (w : World) (b : Nat) (l : List UInt8) : Prop where
  lies : ∃ cur fr, w.heap[b]? = some (.cells cur 5 fr) ∧ l.length ≤ fr.1 ∧ ∀ j, j < l.length → cur[j]? = some (.int .u8 ((l.getD j 0).toNat : Int))
theorem By.lt {w : World} {b : Nat} {l : List UInt8} (h : By w b l) : b < w.heap.size := by
  obtain ⟨cur, fr, hb, _⟩ := h.lies
  exact (Array.getElem?_eq_some_iff.1 hb).1
theorem By.cell {w : World} {b : Nat} {l : List UInt8} (h : By w b l) {j : Nat} (hj : j < l.length) : w.cell? ⟨b, j, none⟩ = some (.int .u8 ((l.getD j 0).toNat : Int)) := by
  obtain ⟨cur, fr, hb, _, hc⟩ := h.lies
  simp [World.cell?, hb, hc j hj]
theorem By.free {w : World} {b : Nat} {l : List UInt8} (h : By w b l) {j : Nat} (hj : j < l.length) : w.frozen? ⟨b, j, none⟩ = false := by
  obtain ⟨cur, fr, hb, hf, _⟩ := h.lies
  simp [World.frozen?, hb]
  omega
theorem By.asit {w w' : World} {b : Nat} {l : List UInt8} (h : By w b l) (e : w'.heap[b]? = w.heap[b]?) : By w' b l := by
  obtain ⟨cur, fr, hb, r⟩ := h.lies
  exact ⟨cur, fr, e.trans hb, r⟩
theorem By.set {w : World} {b : Nat} {l : List UInt8} (h : By w b l) {i : Nat} (x : UInt8) {v : Value} (hv : v = .int .u8 (x.toNat : Int)) (hi : i < l.length) : By (w.setCell ⟨b, i, none⟩ v) b (l.set i x) := by
  subst hv
  obtain ⟨cur, fr, hb, hf, hc⟩ := h.lies
  refine ⟨_, fr, set_heap hb _, by simpa using hf, fun j hj => ?_⟩
  have hj' : j < l.length := by simpa using hj
  have hs : i < cur.size := by
    have := hc i hi
    exact (Array.getElem?_eq_some_iff.1 this).1
  rw [Array.getElem?_setIfInBounds]
  by_cases e : i = j
  · subst e
    rw [if_pos rfl, if_pos hs]
    simp [List.getD_eq_getElem?_getD, hi]
  · rw [if_neg e, hc j hj']
    simp [List.getD_eq_getElem?_getD, List.getElem?_set_ne e]
theorem By.back {w : World} {b c : Nat} {l : List UInt8} (h : By w b l) : (convert 65 9 (.slice (some ⟨b, 0, none⟩) l.length c)).run Try.prog w = .ok (.string ⟨l.toArray⟩) w :=
  run_convert_bytes_back w 65 9 5 ⟨b, 0, none⟩ c l Try.underlying65 Try.underlying5 Try.underlying9 (fun j hj => by
    rw [Go.WideShapes.add_plain, Nat.zero_add, h.cell hj]
    simp [List.getD_eq_getElem?_getD, hj])
theorem conv_any (s : ByteArray) (w : World) : ∃ c W, (convert 9 65 (.string s)).run Try.prog w = .ok (.slice (some ⟨w.heap.size, 0, none⟩) s.size c) W ∧ By W w.heap.size s.data.toList ∧ Below w.heap.size w W := by
  refine ⟨_, _, run_bytes_of_string w 9 65 5 s Try.underlying9 Try.underlying65 Try.underlying5, ⟨_, _, heap_alloc_new w.drew _, ?_, fun j hj => ?_⟩, ?_⟩
  · simp [bytesRow]
  · have hj' : j < s.data.size := by simpa using hj
    rw [bytesRow_at s _ j hj', show s.data.toList.getD j 0 = s.data[j] by rw [List.getD_eq_getElem?_getD, Array.getElem?_toList, Array.getElem?_eq_getElem hj']; rfl]
  · have h := Joins.below_alloc1 w.drew (.cells (bytesRow s (grownCap w s.size 0 5)) 5 ((bytesRow s (grownCap w s.size 0 5)).size, (bytesRow s (grownCap w s.size 0 5)).size + 1))
    exact (Below.refl w.heap.size w).drew.trans h
theorem mask_bit (m k : Nat) (hm : m < 4294967296) : bits .and .u32 ((m : Int) / 2 ^ k) 1 = ((m / 2 ^ k % 2 : Nat) : Int) := by
  have e : ((m : Int) / 2 ^ k) = ((m / 2 ^ k : Nat) : Int) := by
    rw [Int.natCast_ediv]
    simp
  have hb : m / 2 ^ k < 4294967296 := Nat.lt_of_le_of_lt (Nat.div_le_self _ _) hm
  rw [e]
  show bits .and .u32 ((m / 2 ^ k : Nat) : Int) ((1 : Nat) : Int) = _
  rw [u32_and_nat _ _ hb (by decide), nat_mask1]
theorem wrap64_id {n : Int} (h1 : -9223372036854775808 ≤ n) (h2 : n ≤ 9223372036854775807) : wrap64 n = n := by
  unfold wrap64; omega
theorem xor_bit (x : UInt8) (r : Nat) (hr : r < 8) : bits .xor .u8 (x.toNat : Int) ((2 ^ r : Nat) : Int) = ((x ^^^ UInt8.ofNat (2 ^ r)).toNat : Int) := by
  have h2 : 2 ^ r < 256 := by
    have := Nat.pow_lt_pow_right (a := 2) (by decide) hr
    simpa using this
  rw [u8_xor_nat _ _ x.toNat_lt h2, UInt8.toNat_xor, UInt8.toNat_ofNat', Nat.mod_eq_of_lt h2]
theorem div8_lt {A n : Nat} (h : A < 8 * n) : A / 8 < n := by omega
theorem tdiv8 (A : Nat) : (A : Int).tdiv 8 = ((A / 8 : Nat) : Int) := by rw [Int.tdiv_eq_ediv_of_nonneg (by omega)]; omega
theorem tmod8 (A : Nat) : (A : Int).tmod 8 = ((A % 8 : Nat) : Int) := by rw [Int.tmod_eq_emod_of_nonneg (by omega)]; omega
theorem wrap64_nat (A : Nat) (h : A ≤ 9223372036854775807) : wrap64 (A : Int) = (A : Int) := wrap64_id (by omega) (by omega)
theorem wrap64_lo {n : Int} (b1 : -9223372036854775808 ≤ n) (b2 : n ≤ 9223372036854775838) (h : ¬ (0 ≤ n ∧ n ≤ 9223372036854775807)) : ¬ 0 ≤ wrap64 n := by unfold wrap64; omega
theorem no_far {bit : Int} {m len k : Nat} (hl : len ≤ 1000) (h : ¬ (0 ≤ bit + k ∧ bit + (k : Int) ≤ 9223372036854775807)) : ¬ hit bit m len k := fun hx => by
  obtain ⟨_, h2, h3⟩ := hx
  omega
theorem no_long {bit : Int} {m len k A : Nat} (hA : bit + (k : Int) = (A : Int)) (h : ¬ A < 8 * len) : ¬ hit bit m len k := fun hx => by
  obtain ⟨_, h2, h3⟩ := hx
  omega
theorem yes_hit {bit : Int} {m len k A : Nat} (h1 : m / 2 ^ k % 2 = 1) (hA : bit + (k : Int) = (A : Int)) (h : A < 8 * len) : hit bit m len k := ⟨h1, by rw [hA]; exact Int.natCast_nonneg A, by rw [hA]; exact_mod_cast h⟩
theorem fl_yes {bit : Int} {m k A : Nat} {l : List UInt8} (h1 : m / 2 ^ k % 2 = 1) (hA : bit + (k : Int) = (A : Int)) (h : A < 8 * l.length) : flN bit m (k + 1) l = (flN bit m k l).set (A / 8) ((flN bit m k l).getD (A / 8) 0 ^^^ UInt8.ofNat (2 ^ (A % 8))) := by
  have e : (bit + (k : Int)).toNat = A := by rw [hA]; rfl
  show fl1 bit m k (flN bit m k l) = _
  unfold fl1
  rw [flN_len, if_pos (yes_hit h1 hA h), e]
  rfl
theorem fl_no {bit : Int} {m k : Nat} {l : List UInt8} (h : ¬ hit bit m l.length k) : flN bit m (k + 1) l = flN bit m k l := by
  show fl1 bit m k (flN bit m k l) = _
  unfold fl1
  rw [flN_len, if_neg h]
theorem xor_min (x : UInt8) (r : Nat) (hr : r < 8) : bits .xor .u8 (x.toNat : Int) (2 ^ r % 256) = ((x ^^^ UInt8.ofNat (2 ^ r)).toNat : Int) := by
  rw [← xor_bit x r hr]
  have h2 : 2 ^ r < 256 := by
    have := Nat.pow_lt_pow_right (a := 2) (by decide) hr
    simpa using this
  have e : (2 : Int) ^ r % 256 = ((2 ^ r : Nat) : Int) := by
    rw [show (2 : Int) ^ r = ((2 ^ r : Nat) : Int) by simp, ← show ((256 : Nat) : Int) = 256 from rfl, ← Int.natCast_emod, Nat.mod_eq_of_lt h2]
  rw [e]
theorem By.drew {w : World} {b : Nat} {l : List UInt8} (h : By w b l) : By w.drew b l := h.asit rfl
set_option maxHeartbeats 1000000 in
theorem changed_any (s : ByteArray) (hs : s.size ≤ 1000) (bit : Int) (b1 : -9223372036854775808 ≤ bit) (b2 : bit ≤ 9223372036854775807) (m : Nat) (hm : m < 4294967296) (w : World) :
    Calls Try.prog 27 #[.string s, .int .i64 bit, .int .u32 (m : Int)] w fun e w' => e = .returned (.string (flp s bit m)) ∧ Below w.heap.size w w' := by
  obtain ⟨c, W, hrun, hby, hbel⟩ := conv_any s w
  have HBY := Lib.hid hby
  have HBE := Lib.hid hbel
  have HL : Hid (s.data.toList.length = s.size) := Lib.hid (show s.data.toList.length = s.data.size from Array.length_toList)
  unfold flp
  clear hby hbel
  go_enter Try.func27, Try.ntmps27
  go_wp2_with fail
  go_loopw [12] (fun v12 wr => ∃ k : Nat, k ≤ 32 ∧ v12 = .int .i64 k ∧ By wr w.heap.size (flN bit m k s.data.toList) ∧ Below w.heap.size w wr) (fun v12 _ => 32 - (intOf v12).toNat)
  case atStart => exact ⟨0, Nat.zero_le _, rfl, HBY.out, HBE.out⟩
  case round =>
    obtain ⟨k, hk, rfl, hby, hbel⟩ := hrel
    by_cases hlt : k < 32
    · have q0 : (k : Int) < 32 := by omega
      have HK1 : Hid (k + 1 ≤ 32) := Lib.hid (by omega)
      have HBY1 := Lib.hid hby
      have HBE1 := Lib.hid hbel
      have hb32 : bit + (k : Int) ≤ 9223372036854775838 ∧ -9223372036854775808 ≤ bit + (k : Int) := by omega
      by_cases h1 : m / 2 ^ k % 2 = 1
      · have hmb : bits .and .u32 ((m : Int) / 2 ^ k) 1 = 1 := by rw [mask_bit m k hm, h1]; rfl
        have H1 := Lib.hid h1
        clear h1
        by_cases h2 : 0 ≤ bit + k ∧ bit + (k : Int) ≤ 9223372036854775807
        · obtain ⟨A, hA⟩ : ∃ A : Nat, bit + (k : Int) = (A : Int) := ⟨(bit + k).toNat, by omega⟩
          have hA63 : A ≤ 9223372036854775807 := by omega
          have e1 : wrap64 (bit + (k : Int)) = (A : Int) := by rw [hA]; exact wrap64_nat A hA63
          have e2 := tdiv8 A
          have e3 := wrap64_nat (A / 8) (Nat.le_trans (Nat.div_le_self _ _) hA63)
          by_cases h3 : A < 8 * s.size
          · have h8 := div8_lt h3
            have q3 : ((A / 8 : Nat) : Int) < (s.size : Int) := Int.ofNat_lt.2 h8
            have hlt8 : A / 8 < (flN bit m k s.data.toList).length := by rw [flN_len, HL.out]; exact h8
            have d0 := hby.cell hlt8
            have f0 := hby.free hlt8
            have e4 := tmod8 A
            have hr8 : A % 8 < 8 := Nat.mod_lt _ (by decide)
            have hA1 : A ≤ 8000 := by omega
            have HYES := Lib.hid (fl_yes (l := s.data.toList) H1.out hA (by rw [HL.out]; exact h3))
            have HSET := Lib.hid (hby.set ((flN bit m k s.data.toList).getD (A / 8) 0 ^^^ UInt8.ofNat (2 ^ (A % 8))) rfl hlt8)
            have hxb := xor_min ((flN bit m k s.data.toList).getD (A / 8) 0) (A % 8) (Nat.mod_lt _ (by decide))
            have HOUT := Lib.hid (HBE1.out.setCell (p := ⟨w.heap.size, A / 8, none⟩) (Nat.le_refl _) (Value.int .u8 ((((flN bit m k s.data.toList).getD (A / 8) 0 ^^^ UInt8.ofNat (2 ^ (A % 8))).toNat : Nat) : Int)))
            generalize (flN bit m k s.data.toList).getD (A / 8) 0 = x at *
            clear hby hbel hlt8 h2 h3 hb32 hA hA63
            generalize A / 8 = A8 at *
            generalize A % 8 = A7 at *
            go_upto_region 6 with fail
            rw [e1]
            clear e1 e3
            go_wp2_with fail
            go_region
            go_wp2
            go_roundw
            case rel => exact ⟨k + 1, HK1.out, by go_num, by rw [HYES.out]; exact HSET.out.drew, HOUT.out.drew⟩
            case measure => simp [intOf]; omega
          · have q3 : ¬ ((A / 8 : Nat) : Int) < (s.size : Int) := by omega
            have HNO := Lib.hid (fl_no (l := s.data.toList) (no_long (m := m) (len := s.data.toList.length) hA (by rw [HL.out]; exact h3)))
            clear hby hbel
            go_wp2
            go_roundw
            case rel => exact ⟨k + 1, HK1.out, by go_num, by rw [HNO.out]; exact HBY1.out, HBE1.out⟩
            case measure => simp [intOf]; omega
        · have e2 := wrap64_lo hb32.2 hb32.1 h2
          have HNO := Lib.hid (fl_no (l := s.data.toList) (no_far (m := m) (len := s.data.toList.length) (by rw [HL.out]; exact hs) h2))
          clear hby hbel
          go_wp2
          go_roundw
          case rel => exact ⟨k + 1, HK1.out, by go_num, by rw [HNO.out]; exact HBY1.out, HBE1.out⟩
          case measure => simp [intOf]; omega
      · have hmb : bits .and .u32 ((m : Int) / 2 ^ k) 1 = 0 := by rw [mask_bit m k hm, show m / 2 ^ k % 2 = 0 from (Nat.mod_two_eq_zero_or_one _).resolve_right h1]; rfl
        have HNO := Lib.hid (fl_no (l := s.data.toList) (fun hx : hit bit m s.data.toList.length k => h1 hx.1))
        clear h1
        clear hby hbel
        go_wp2
        go_roundw
        case rel => exact ⟨k + 1, HK1.out, by go_num, by rw [HNO.out]; exact HBY1.out, HBE1.out⟩
        case measure => simp [intOf]; omega
    · obtain rfl : k = 32 := by omega
      have hlen := flN_len bit m 32 s.data.toList
      have hbk := hby.back (c := c)
      rw [hlen, HL.out] at hbk
      have HBE2 := Lib.hid hbel
      clear hby hbel hlen
      go_wp2
      go_ret
      exact ⟨rfl, HBE2.out⟩
end Go.Proofs.Ytjnjpphbclepbaa
