/- LinkPair: the three ways of its walk joined, and its texts read with their room. -/
import Derived.Test.YtclobdejlihblaaJW
import Derived.Deep.Slices
namespace Go.Proofs.Ytclobdejlihblaa
open Go Go.ChangeShapes Go.WideShapes Go.ChangeAt Go.RowKit Go.Joins
theorem open_strs_cap {H : Type} {enc : TypeId × Value → H} {w : World} {spare : Nat → Bool} {held : Bool} {fuel : Nat} {a : Option Addr} {len cap : Nat} {x : DataW H × List MemPlace} (h : DataW.trod enc Try.prog w 0 spare held fuel 51 [.slice a len cap] = some x) :
    ∃ l, SsAt w a len l ∧ len ≤ cap := by
  obtain ⟨l, hl⟩ := open_strs h
  refine ⟨l, hl, ?_⟩
  rcases Deep.open_slice Try.underlying51 h with ⟨hcs, _⟩ | ⟨y, l, c, m, n, D, Pl, hcs, _, hl, _⟩
  · simp at hcs
    obtain ⟨rfl, rfl, rfl⟩ := hcs
    exact Nat.le_refl _
  · simp at hcs
    obtain ⟨rfl, rfl, rfl⟩ := hcs
    exact hl
theorem pair_any (x0 x1 : Int) (a : Option Addr) (len cap : Nat) (l : List ByteArray) (a2 : Option Addr) (len2 cap2 : Nat) (ps : List Int) (w : World) (hi : SsAt w a len l) (hcap : len ≤ cap) (h2 : IsUs w a2 len2 ps) :
    Calls Try.prog 4 #[.agg #[.int .i64 x0, .int .i64 x1], .slice a len cap, .slice a2 len2 cap2] w fun e w' => e = .returned (.bool true) ∧ Below w.heap.size w w' := by
  by_cases hc : 30 < len
  · exact pair_long x0 x1 a len cap l a2 len2 cap2 hc w
  by_cases hc2 : 200 < len2
  · exact pair_many x0 x1 a len cap l a2 len2 cap2 hc hc2 w
  exact pair_yes x0 x1 a len cap l a2 len2 cap2 ps hc hc2 hcap w hi h2
end Go.Proofs.Ytclobdejlihblaa
