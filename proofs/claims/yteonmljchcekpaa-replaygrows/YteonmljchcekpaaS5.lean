/- Keys are short. -/
import Derived.Test.YteonmljchcekpaaS4
import Derived.Maps.RangeWalk
import Derived.Maps.AppendAt
import Derived.Sort.OwnSorted
import Derived.OwnWalk
namespace Go.Proofs.Yteonmljchcekpaa
open Go Go.RowKit Go.Maps Go.Sort
theorem infoStr : (Try.prog.info? 9).map (fun i => (i.zero, i.size, i.bytes)) = some (some (.string ⟨#[]⟩), 1, 16) := by kernel_rfl
/-- Its keys are short. -/
def Kn (f : Fn) : Prop := ∀ k, (f k).1 ≠ 0 → k.length ≤ 1000
theorem kn_do {f : Fn} {u : Up} (h : Kn f) : Kn (doF f u) := fun k hk => by
  unfold doF at hk
  split at hk
  · rename_i e
    have h16 : u.1.size ≤ 16 := by
      rcases Nat.lt_or_ge 16 u.1.size with hx | hx
      · have := e.2
        rw [mayE, if_pos (.inr hx)] at this
        cases this
      · exact hx
    rw [e.1]
    show u.1.data.toList.length ≤ 1000
    rw [Array.length_toList]
    have : u.1.data.size = u.1.size := rfl
    omega
  · exact h k hk
theorem kn_fold (us : List Up) : ∀ f : Fn, Kn f → Kn (us.foldl doF f) := by
  induction us with
  | nil => exact fun f hf => hf
  | cons u us ih => exact fun f hf => ih _ (kn_do hf)
theorem kn_st (us : List Up) : Kn (stF us) := kn_fold us f0 fun _ hk => absurd rfl hk
end Go.Proofs.Yteonmljchcekpaa
