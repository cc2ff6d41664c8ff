/- What small numbers that came in read as. -/
import Derived.Test.YtjmkdgjdemndaaaDoorDF
import Derived.Test.YtjmkdgjdemndaaaDoorD5
namespace Go.Proofs.YtjmkdgjdemndaaaDoor
open Go Go.ChangeShapes Go.WideShapes Go.ChangeAt Go.RowKit Go.Joins
set_option maxRecDepth 20000
variable {H : Type} {enc : TypeId × Value → H} {w : World} {spare : Nat → Bool} {held : Bool}
theorem cellsB8 : Tryd.prog.cellsOf 5 = 1 := by kernel_rfl
theorem u8_top {m : Int} (h : (Lit.int .u8 m).wf = true) : 0 ≤ m ∧ m ≤ 255 := by
  have e1 : IntKind.u8.min = 0 := by rfl
  have e2 : IntKind.u8.max = 255 := by rfl
  simp [Lit.wf, e1, e2] at h
  omega
theorem open_u8s {fuel : Nat} {a : Option Addr} {len cap : Nat} {x : DataW H × List MemPlace} (h : DataW.trod enc Tryd.prog w 0 spare held fuel 58 [.slice a len cap] = some x) :
    ∃ l, IsBs w a len l := by
  rcases Deep.open_slice Tryd.underlying58 h with ⟨hcs, _⟩ | ⟨y, l, c, m, n, D, Pl, hcs, _, hl, hc, hm, _, hi⟩
  · simp at hcs
    obtain ⟨rfl, rfl, rfl⟩ := hcs
    exact ⟨[], ⟨rfl, fun h0 => absurd h0 (by omega)⟩⟩
  · simp at hcs
    obtain ⟨rfl, rfl, rfl⟩ := hcs
    have hml : len ≤ m := by rw [hm]; split <;> omega
    rw [cellsB8] at hi
    have hall : ∀ i, i < len → ∃ f : Int, w.cell? (y.add i) = some (.int .u8 f) ∧ 0 ≤ f ∧ f ≤ 255 := by
      intro i hi'
      obtain ⟨cs', hc', ht⟩ := hi i (by omega)
      obtain ⟨f, hf, _, hw⟩ := DataW.trod_int Tryd.underlying5 ht
      obtain ⟨_, _, hat⟩ := World.cells?_some hc'
      rw [hf] at hat
      have := hat 0 (by omega)
      simp [Addr.add] at this
      exact ⟨f, by simpa [Addr.add] using this, u8_top hw⟩
    obtain ⟨F, hF⟩ := Deep.choose_lt hall
    refine ⟨(List.range len).map F, ⟨by simp, ?_⟩⟩
    intro h0
    obtain ⟨b, off, spot⟩ := y
    have hspot : spot = none := by
      have h00 := (hF 0 h0).1
      simpa [Addr.add] using World.cell?_spot h00
    subst hspot
    have h3 : ∀ i, i < len → w.cell? ⟨b, off + i, none⟩ = some (.int .u8 (F i)) := by
      intro i hi'
      have q0 := (hF i hi').1
      rw [Go.WideShapes.add_plain] at q0
      exact q0
    refine ⟨b, off, rfl, cell_lt (h3 0 h0), fun i hi' => ?_⟩
    rw [show ((List.range len).map F).getD i 0 = F i by simp [List.getD_eq_getElem?_getD, hi']]
    exact ⟨h3 i hi', (hF i hi').2⟩
end Go.Proofs.YtjmkdgjdemndaaaDoor
