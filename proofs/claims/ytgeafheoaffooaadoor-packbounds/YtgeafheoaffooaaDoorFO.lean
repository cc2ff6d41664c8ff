/- What a slice of fields that came in reads as. -/
import Derived.Test.YtgeafheoaffooaaDoorG1
import Derived.Test.YtgeafheoaffooaaDoorF
import Derived.Deep.Slices
import Derived.SizedLaws
namespace Go.Proofs.YtgeafheoaffooaaDoor
open Go Go.ChangeShapes Go.WideShapes Go.RowKit
theorem fields31 : ∃ f0 f1 f2 : Field, Tryd.prog.underlying 31 = some (.struct #[f0, f1, f2]) ∧ (f0.type, f0.offset) = (3, 0) ∧ (f1.type, f1.offset) = (3, 1) ∧ (f2.type, f2.offset) = (9, 2) := ⟨_, _, _, Tryd.underlying31, rfl, rfl, rfl⟩
theorem cells31 : Tryd.prog.cellsOf 31 = 3 := by kernel_rfl
theorem cellsStr : Tryd.prog.cellsOf 9 = 1 := by kernel_rfl
/-- One field that is read: its three cells. -/
theorem open_field {H : Type} {enc : TypeId × Value → H} {w : World} {base : Nat} {spare : Nat → Bool} {held : Bool} {fuel : Nat} {cs : List Value} {x : DataW H × List MemPlace} (h : DataW.trod enc Tryd.prog w base spare held fuel 31 cs = some x) :
    ∃ f : Fd, cs = [.int .i64 f.1, .int .i64 f.2.1, .string f.2.2] ∧ -9223372036854775808 ≤ f.2.1 ∧ f.2.1 ≤ 9223372036854775807 := by
  obtain ⟨f0, f1, f2, hu, e0, e1, e2⟩ := fields31
  simp only [Prod.mk.injEq] at e0 e1 e2
  obtain ⟨xs, n, _, _, hlen, hxl, hg⟩ := DataW.trod_struct hu h
  rw [cells31] at hlen
  match cs, hlen with
  | [c0, c1, c2], _ =>
    match xs, hxl with
    | [y0, y1, y2], _ =>
      have g0 := hg 0 f0 rfl
      have g1 := hg 1 f1 rfl
      have g2 := hg 2 f2 rfl
      rw [e0.1, e0.2, cells3] at g0
      rw [e1.1, e1.2, cells3] at g1
      rw [e2.1, e2.2, cellsStr] at g2
      obtain ⟨n0, h0, _, _⟩ := DataW.trod_int Tryd.underlying3 (x := y0) g0
      obtain ⟨n1, h1, _, w1⟩ := DataW.trod_int Tryd.underlying3 (x := y1) g1
      obtain ⟨s, h2, _, _⟩ := DataW.trod_string Tryd.underlying9 (x := y2) g2
      simp at h0 h1 h2
      subst h0 h1 h2
      exact ⟨(n0, n1, s), rfl, (bd_i64 w1).1, (bd_i64 w1).2⟩
theorem open_fields {H : Type} {enc : TypeId × Value → H} {w : World} {spare : Nat → Bool} {held : Bool} {fuel : Nat} {a : Option Addr} {len cap : Nat} {x : DataW H × List MemPlace} (h : DataW.trod enc Tryd.prog w 0 spare held fuel 22 [.slice a len cap] = some x) : ∃ fs, IsFs w a len fs := by
  rcases Deep.open_slice Tryd.underlying22 h with ⟨hcs, _⟩ | ⟨y, l, c, m, n, D, Pl, hcs, _, hl, _, hm, _, hi⟩
  · simp at hcs
    obtain ⟨_, rfl, _⟩ := hcs
    exact ⟨[], rfl, fun h0 => absurd h0 (by omega), fun i hi => absurd hi (by omega), fun i hi => absurd hi (by omega)⟩
  · simp at hcs
    obtain ⟨rfl, rfl, rfl⟩ := hcs
    have hml : len ≤ m := by rw [hm]; split <;> omega
    rw [cells31] at hi
    have hall : ∀ i, i < len → ∃ f : Fd, (∀ j, j < 3 → w.cell? ((y.add (i * 3)).add j) = [Value.int .i64 f.1, .int .i64 f.2.1, .string f.2.2][j]?) ∧ -9223372036854775808 ≤ f.2.1 ∧ f.2.1 ≤ 9223372036854775807 := by
      intro i hi'
      obtain ⟨cs', hc, ht⟩ := hi i (by omega)
      obtain ⟨f, hf, h1, h2⟩ := open_field ht
      obtain ⟨_, _, hat⟩ := World.cells?_some hc
      rw [hf] at hat
      exact ⟨f, hat, h1, h2⟩
    obtain ⟨F, hF⟩ := Deep.choose_lt hall
    refine ⟨(List.range len).map F, ?_, ?_, ?_, ?_⟩
    · simp
    · intro h0
      obtain ⟨b, off, spot⟩ := y
      have hspot : spot = none := by
        have h00 := (hF 0 h0).1 0 (by omega)
        simpa [Addr.add] using World.cell?_spot (show World.cell? w _ = some (Value.int .i64 (F 0).1) from h00)
      subst hspot
      have hadd : ∀ i j : Nat, ((⟨b, off, none⟩ : Addr).add (i * 3)).add j = ⟨b, off + i * 3 + j, none⟩ := by
        intro i j
        rw [Go.WideShapes.add_plain, Go.WideShapes.add_plain]
      have hg : ∀ i, i < ((List.range len).map F).length → ((List.range len).map F).getD i fd0 = F i ∧ i < len := by
        intro i hi'
        have : i < len := by simpa using hi'
        exact ⟨by simp [List.getD_eq_getElem?_getD, this], this⟩
      refine ⟨b, off, rfl, ⟨?_, ?_, ?_⟩⟩
      · intro i hi'
        obtain ⟨e, hl'⟩ := hg i hi'
        have := (hF i hl').1 0 (by omega)
        rw [hadd] at this
        rw [e]; exact this
      · intro i hi'
        obtain ⟨e, hl'⟩ := hg i hi'
        have := (hF i hl').1 1 (by omega)
        rw [hadd] at this
        rw [e]; exact this
      · intro i hi'
        obtain ⟨e, hl'⟩ := hg i hi'
        have := (hF i hl').1 2 (by omega)
        rw [hadd] at this
        rw [e]; exact this
    · intro i hi'
      have e : ((List.range len).map F).getD i fd0 = F i := by simp [List.getD_eq_getElem?_getD, hi']
      rw [e]; exact (hF i hi').2.1
    · intro i hi'
      have e : ((List.range len).map F).getD i fd0 = F i := by simp [List.getD_eq_getElem?_getD, hi']
      rw [e]; exact (hF i hi').2.2
end Go.Proofs.YtgeafheoaffooaaDoor
