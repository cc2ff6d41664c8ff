/- The document's Flip. -/
import Derived.Test.YtjnjpphbclepbaaH5
namespace Go.Proofs.Ytjnjpphbclepbaa
open Go Go.RowKit
set_option maxRecDepth 20000
theorem half_mask (m k : Nat) : m / 2 ^ k / 2 = m / 2 ^ (k + 1) := by rw [Nat.div_div_eq_div_mul, Nat.pow_succ]
theorem tdiv2 (M : Nat) : (M : Int).tdiv 2 = ((M / 2 : Nat) : Int) := by rw [Int.tdiv_eq_ediv_of_nonneg (by omega)]; omega
theorem tmod2 (M : Nat) : (M : Int).tmod 2 = ((M % 2 : Nat) : Int) := by rw [Int.tmod_eq_emod_of_nonneg (by omega)]; omega
theorem u32_nat (M : Nat) (h : M < 4294967296) : IntKind.u32.wrap (M : Int) = (M : Int) := by rw [IntKind.wrap_u32']; omega
theorem pow8 {j p : Nat} (hp : p = 2 ^ j) (hj : j < 8) : p < 256 := by
  have : 2 ^ j < 2 ^ 8 := Nat.pow_lt_pow_right (by decide) hj
  rw [hp]; simpa using this
theorem dbl8 {j p r : Nat} (hp : p = 2 ^ j) (hj : j < r) (hr : r < 8) : p * 2 = 2 ^ (j + 1) ∧ IntKind.u8.wrap ((p : Int) * 2) = ((p * 2 : Nat) : Int) := by
  have h1 : p * 2 = 2 ^ (j + 1) := by rw [Nat.pow_succ, hp]
  have h2 := pow8 h1 (by omega)
  exact ⟨h1, by rw [IntKind.wrap_u8']; omega⟩
theorem ints_lt {j r : Nat} (h : j < r) : (j : Int) < (r : Int) ∧ j + 1 ≤ r ∧ (((j : Int) + 1) = ((j + 1 : Nat) : Int)) := by omega
theorem meas {j r : Nat} (h : j < r) : r - (j + 1) < r - j := by omega
set_option maxHeartbeats 1000000 in
theorem dflip_any (s : ByteArray) (hs : s.size ≤ 1000) (bit : Int) (b1 : -32 ≤ bit) (b2 : bit ≤ 8000) (m : Nat) (hm : m < 4294967296) (w : World) :
    Calls Try.prog 29 #[.string s, .int .i64 bit, .int .u32 (m : Int)] w fun e w' => e = .returned (.string (flp s bit m)) ∧ Below w.heap.size w w' := by
  obtain ⟨c, W, hrun, hby, hbel⟩ := conv_any s w
  have HBY := Lib.hid hby
  have HBE := Lib.hid hbel
  have HL : Hid (s.data.toList.length = s.size) := Lib.hid (show s.data.toList.length = s.data.size from Array.length_toList)
  unfold flp
  clear hby hbel
  go_enter Try.func29, Try.ntmps29
  go_wp2_with fail
  go_loopw [8, 2] (fun v8 v2 wr => ∃ k : Nat, k ≤ 32 ∧ v8 = .int .i64 k ∧ v2 = .int .u32 ((m / 2 ^ k : Nat) : Int) ∧ By wr w.heap.size (flN bit m k s.data.toList) ∧ Below w.heap.size w wr) (fun v8 _ _ => 32 - (intOf v8).toNat)
  case atStart => exact ⟨0, Nat.zero_le _, rfl, by simp, HBY.out, HBE.out⟩
  case round =>
    obtain ⟨k, hk, rfl, rfl, hby, hbel⟩ := hrel
    have hM : m / 2 ^ k < 4294967296 := Nat.lt_of_le_of_lt (Nat.div_le_self _ _) hm
    have HHM := Lib.hid (half_mask m k)
    by_cases hlt : k < 32
    · have q0 : (k : Int) < 32 := by omega
      have HK1 : Hid (k + 1 ≤ 32) := Lib.hid (by omega)
      have HBY1 := Lib.hid hby
      have HBE1 := Lib.hid hbel
      have hb32 : -9223372036854775808 ≤ bit + (k : Int) ∧ bit + (k : Int) ≤ 9223372036854775807 := by omega
      have e1 := wrap64_id hb32.1 hb32.2
      obtain ⟨M, hMM⟩ : ∃ M, m / 2 ^ k = M := ⟨_, rfl⟩
      rw [hMM] at hM HHM ⊢
      have HMM := Lib.hid hMM
      have HHI : Hid ((M : Int) / 2 = ((M / 2 : Nat) : Int)) := Lib.hid (by omega)
      clear hMM
      by_cases h1 : M % 2 = 1
      · have q1 : (M : Int) % 2 = 1 := by omega
        have H1 : Hid (m / 2 ^ k % 2 = 1) := Lib.hid (by rw [HMM.out]; exact h1)
        clear h1
        by_cases h2 : 0 ≤ bit + (k : Int)
        · obtain ⟨A, hA⟩ : ∃ A : Nat, bit + (k : Int) = (A : Int) := ⟨(bit + k).toNat, by omega⟩
          replace e1 := e1.trans hA
          have hA63 : A ≤ 9223372036854775807 := by omega
          by_cases h3 : A < 8 * s.size
          · have h8 := div8_lt h3
            have q3 : (A : Int) < 8 * (s.size : Int) := by omega
            have q4 : ((A / 8 : Nat) : Int) < (s.size : Int) := Int.ofNat_lt.2 h8
            have e2 := tdiv8 A
            have e4 := tmod8 A
            have hr8 : A % 8 < 8 := Nat.mod_lt _ (by decide)
            have HYES := Lib.hid (fl_yes (l := s.data.toList) H1.out hA (by rw [HL.out]; exact h3))
            have hlt8 : A / 8 < (flN bit m k s.data.toList).length := by rw [flN_len, HL.out]; exact h8
            have HLT8 := Lib.hid hlt8
            clear hby hbel h2 h3 hb32 hA hA63 hlt8 b1 b2
            generalize A / 8 = A8 at *
            generalize A % 8 = A7 at *
            obtain ⟨wo, hwo⟩ : ∃ wo, wo = wr := ⟨_, rfl⟩
            subst hwo
            go_upto_region 6 with fail
            rw [e1]
            have hA1 : A ≤ 8000 := by omega
            clear e1
            go_wp2_with fail
            go_loopw [10, 11] (fun v10 v11 wx => ∃ j p : Nat, j ≤ A7 ∧ p = 2 ^ j ∧ v10 = .int .u8 (p : Int) ∧ v11 = .int .i64 (j : Int) ∧ wx = wo) (fun _ v11 _ => A7 - (intOf v11).toNat)
            case atStart => exact ⟨0, 1, Nat.zero_le _, rfl, rfl, rfl, rfl⟩
            case round =>
              obtain ⟨j, p, hj, hp, rfl, rfl, rfl⟩ := hrel
              have HP := Lib.hid hp
              clear hp
              by_cases hja : j < A7
              · obtain ⟨q6, q7, q8⟩ := ints_lt hja
                obtain ⟨p1, e6⟩ := dbl8 HP.out hja hr8
                have HP1 := Lib.hid p1
                have HM := Lib.hid (meas hja)
                have HQ8 := Lib.hid q8
                clear p1 q8
                go_wp2
                go_roundw
                case rel => exact ⟨j + 1, p * 2, q7, HP1.out, by first | rfl | (rw [e6]) | go_num, by first | rfl | (rw [HQ8.out]), by first | trivial | rfl⟩
                case measure => simp [intOf]; exact HM.out
              · obtain rfl : j = A7 := Nat.le_antisymm hj (Nat.le_of_not_lt hja)
                have q6 : ¬ (j : Int) < (j : Int) := Int.lt_irrefl _
                have d0 := HBY1.out.cell HLT8.out
                have f0 := HBY1.out.free HLT8.out
                have HSET := Lib.hid (HBY1.out.set ((flN bit m k s.data.toList).getD A8 0 ^^^ UInt8.ofNat (2 ^ j)) rfl HLT8.out)
                have hxb := xor_bit ((flN bit m k s.data.toList).getD A8 0) j hr8
                rw [← HP.out] at hxb
                have HV : Hid ((((flN bit m k s.data.toList).getD A8 0).toNat ^^^ p % 256 : Nat) = ((flN bit m k s.data.toList).getD A8 0 ^^^ UInt8.ofNat (2 ^ j)).toNat) := Lib.hid (by rw [← HP.out, UInt8.toNat_xor, UInt8.toNat_ofNat'])
                have HOUT := Lib.hid (HBE1.out.setCell (p := ⟨w.heap.size, A8, none⟩) (Nat.le_refl _) (Value.int .u8 ((((flN bit m k s.data.toList).getD A8 0 ^^^ UInt8.ofNat (2 ^ j)).toNat : Nat) : Int)))
                generalize (flN bit m k s.data.toList).getD A8 0 = x at *
                go_wp2
                rw [HV.out]
                go_roundw
                case rel => exact ⟨k + 1, HK1.out, by go_num, by rw [HHI.out, HHM.out], by rw [HYES.out]; exact HSET.out, HOUT.out⟩
                case measure => simp [intOf]; omega
          · have q3 : ¬ (A : Int) < 8 * (s.size : Int) := by omega
            have HNO := Lib.hid (fl_no (l := s.data.toList) (no_long (m := m) (len := s.data.toList.length) hA (by rw [HL.out]; exact h3)))
            clear hby hbel
            go_wp2
            go_roundw
            case rel => exact ⟨k + 1, HK1.out, by go_num, by rw [HHI.out, HHM.out], by rw [HNO.out]; exact HBY1.out, HBE1.out⟩
            case measure => simp [intOf]; omega
        · have HNO := Lib.hid (fl_no (l := s.data.toList) (fun hx : hit bit m s.data.toList.length k => h2 hx.2.1))
          clear hby hbel
          go_wp2
          go_roundw
          case rel => exact ⟨k + 1, HK1.out, by go_num, by rw [HHI.out, HHM.out], by rw [HNO.out]; exact HBY1.out, HBE1.out⟩
          case measure => simp [intOf]; omega
      · have q1 : ¬ (M : Int) % 2 = 1 := by omega
        have HNO := Lib.hid (fl_no (l := s.data.toList) (fun hx : hit bit m s.data.toList.length k => h1 (by rw [← HMM.out]; exact hx.1)))
        clear h1
        clear hby hbel
        go_wp2
        go_roundw
        case rel => exact ⟨k + 1, HK1.out, by go_num, by rw [HHI.out, HHM.out], by rw [HNO.out]; exact HBY1.out, HBE1.out⟩
        case measure => simp [intOf]; omega
    · obtain rfl : k = 32 := by omega
      have hlen := flN_len bit m 32 s.data.toList
      have hbk := hby.back (c := c)
      rw [hlen, HL.out] at hbk
      have HBE2 := Lib.hid hbel
      clear hby hbel hlen
      go_wp2
      go_ret
      exact ⟨rfl, HBE2.out⟩
end Go.Proofs.Ytjnjpphbclepbaa
