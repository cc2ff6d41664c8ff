/- strings.Clone hands its text back. -/
import Derived.Test.YteonmljchcekpaaV0
import Derived.Test.YteonmljchcekpaaSH
namespace Go.Proofs.Yteonmljchcekpaa
open Go Go.RowKit
set_option maxHeartbeats 400000 in
theorem clone_any (s : ByteArray) (hs : s.size ≤ 140737488355328) (w : World) : Calls Try.prog 33 #[.string s] w fun x w' => x = .returned (.string s) ∧ Below w.heap.size w w' := by
  go_enter Try.func33, Try.ntmps33
  go_wp2_with fail
  refine (liteClone s hs _).mono ?_
  rintro x w1 ⟨rfl, hb⟩
  have HB := Lib.hid hb
  clear hb
  go_wp2
  go_ret
  exact ⟨rfl, HB.out⟩
end Go.Proofs.Yteonmljchcekpaa
