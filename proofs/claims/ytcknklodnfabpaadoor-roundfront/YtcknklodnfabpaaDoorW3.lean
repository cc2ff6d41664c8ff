/- The contract of untagged. -/
import Derived.Test.YtcknklodnfabpaaDoorA2
import Derived.Test.YtcknklodnfabpaaDoorW1
namespace Go.Proofs.YtcknklodnfabpaaDoor
open Go Go.RowKit
set_option maxHeartbeats 400000 in
theorem untagged_any (s : ByteArray) (hs : 0 < s.size) (hs8 : s.size ≤ 8) (w : World) : Calls Tryd.prog 78 #[.string s] w fun e w' => e = .returned (.int .u64 (un s 0 s.size)) ∧ w = w' := by
  have hb0 := byt_bd s 0
  have ha := and63 (s[0].toNat : Int) (by rw [byt_at s 0 hs]; omega) (by rw [byt_at s 0 hs]; omega)
  go_enter Tryd.func78, Tryd.ntmps78
  go_wp2_with fail
  go_loop [3, 4] (fun v3 v4 => ∃ k : Nat, 1 ≤ k ∧ k ≤ s.size ∧ v4 = .int .i64 k ∧ v3 = .int .u64 (un s 0 k)) (fun _ v4 => s.size - (intOf v4).toNat)
  case atStart => exact ⟨1, Nat.le_refl _, hs, rfl, by rw [byt_at s 0 hs]; rfl⟩
  case round =>
    obtain ⟨k, hk1, hk, rfl, rfl⟩ := hrel
    clear ha
    by_cases hlt : k < s.size
    · have hu := un_bd7 s 0 k (by omega)
      have hbk := byt_bd s k
      have hor := or_byte (un s 0 k) (s[k].toNat : Int) hu.1 hu.2 (by rw [byt_at s k hlt]; omega) (by rw [byt_at s k hlt]; omega)
      have HU : Hid (un s 0 (k + 1) = un s 0 k * 256 + (s[k].toNat : Int)) := by
        show un s 0 (k + 1) = un s 0 k * 256 + (s[k].toNat : Int)
        rw [un_succ s 0 k hk1, byt_at s k hlt, Nat.zero_add]
      go_wp2
      go_round
      case rel => exact ⟨k + 1, by omega, by omega, by go_num, by rw [HU.out]⟩
      case measure => simp [intOf]; omega
    · obtain rfl : k = s.size := by omega
      go_wp2
      go_ret
      exact ⟨rfl, rfl⟩
end Go.Proofs.YtcknklodnfabpaaDoor
