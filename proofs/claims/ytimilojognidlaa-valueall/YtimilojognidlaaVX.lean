/- The walk of ValueAll. -/
import Derived.Test.YtimilojognidlaaVX3
namespace Go.Proofs.Ytimilojognidlaa
open Go Go.RowKit
theorem walkAll (v : Vl) (a : Option Addr) (len cap : Nat) (us : List Up) (at_ : Int) (hin : ∀ u ∈ us, In64 u.2.2.1) (hc : len ≤ cap) (hn : a = none → cap = 0) (w : World) (hu : IsUs w a len us) :
    Calls Try.prog 5 #[vv v, .slice a len cap, .int .i64 at_] w fun e w' => e = .returned (.bool true) ∧ Below w.heap.size w w' := by
  by_cases hi : isV v
  · by_cases hg : gAll len us
    · exact all_g v a len cap us at_ hi hg w hu
    by_cases h0 : at_ < 0
    · exact all_l v a len cap us at_ hi hg h0 w hu
    by_cases h1 : (len : Int) < at_
    · exact all_h v a len cap us at_ hi hg (by omega) h1 w hu
    obtain ⟨k, rfl⟩ : ∃ k : Nat, at_ = (k : Int) := ⟨at_.toNat, by omega⟩
    by_cases hl : len = 0
    · subst hl
      obtain rfl : k = 0 := by omega
      exact all_zero v a cap hn hi w
    · obtain ⟨b, off, rfl, _⟩ := hu.lies (by omega)
      exact all_main v b off len cap us k hi hg hin (by omega) (by omega) hc w hu
  · exact all_v v a len cap us at_ hi w hu
end Go.Proofs.Ytimilojognidlaa
