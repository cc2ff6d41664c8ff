/- What calls, texts and numbers that came in read as. -/
import Derived.Test.YtlmnncablfbafaaRows
import Derived.Test.YtlmnncablfbafaaEG
import Derived.Test.YtlmnncablfbafaaEL4
import Derived.WalkKit
import Derived.ProofKit
import Derived.OpenShut
import Derived.Deep.Slices
import Derived.Laws.IdiomArrays
import Derived.Lib.SmallJoins
namespace Go.Proofs.Ytlmnncablfbafaa
open Go Go.ChangeShapes Go.WideShapes Go.ChangeAt Go.RowKit Go.Joins
set_option maxRecDepth 20000
theorem own : ownKnob Try.prog.godebug = none := by kernel_rfl
theorem laidOut : laidOutB Try.prog = true := by kernel_rfl
theorem cellsA : Try.prog.cellsOf 30 = 3 := by kernel_rfl
theorem cellsS : Try.prog.cellsOf 9 = 1 := by kernel_rfl
theorem cellsK : Try.prog.cellsOf 3 = 1 := by kernel_rfl
theorem cell_lt {w : World} {b o : Nat} {v : Value} (h : w.cell? ⟨b, o, none⟩ = some v) : b < w.heap.size := by
  rcases Nat.lt_or_ge b w.heap.size with hx | hx
  · exact hx
  · simp [World.cell?, Array.getElem?_eq_none hx] at h
variable {H : Type} {enc : TypeId × Value → H} {w : World} {spare : Nat → Bool} {held : Bool}
theorem fieldsA : ∃ f0 f1 f2 : Field, Try.prog.underlying 30 = some (.struct #[f0, f1, f2]) ∧ (f0.type, f0.offset) = (3, 0) ∧ (f1.type, f1.offset) = (3, 1) ∧ (f2.type, f2.offset) = (9, 2) := ⟨_, _, _, Try.underlying30, rfl, rfl, rfl⟩
theorem i64_top {m : Int} (h : (Lit.int .i64 m).wf = true) : m ≤ 9223372036854775807 := by
  simp [Lit.wf] at h
  omega
/-- One call that is read: its three cells. -/
theorem open_act_cells {base : Nat} {fuel : Nat} {cs : List Value} {x : DataW H × List MemPlace} (h : DataW.trod enc Try.prog w base spare held fuel 30 cs = some x) :
    ∃ u : Ac, cs = [.int .i64 u.1, .int .i64 u.2.1, .string u.2.2] ∧ u.2.1 ≤ 9223372036854775807 := by
  obtain ⟨f0, f1, f2, hu, e0, e1, e2⟩ := fieldsA
  simp only [Prod.mk.injEq] at e0 e1 e2
  obtain ⟨xs, n, _, _, hlen, hxl, hg⟩ := DataW.trod_struct hu h
  rw [cellsA] at hlen
  match cs, hlen with
  | [c0, c1, c2], _ =>
    match xs, hxl with
    | [y0, y1, y2], _ =>
      have g0 := hg 0 f0 rfl
      have g1 := hg 1 f1 rfl
      have g2 := hg 2 f2 rfl
      rw [e0.1, e0.2, cellsK] at g0
      rw [e1.1, e1.2, cellsK] at g1
      rw [e2.1, e2.2, cellsS] at g2
      obtain ⟨k, h0, _, _⟩ := DataW.trod_int Try.underlying3 (x := y0) g0
      obtain ⟨m, h1, _, hw⟩ := DataW.trod_int Try.underlying3 (x := y1) g1
      obtain ⟨s, h2, _, _⟩ := DataW.trod_string Try.underlying9 (x := y2) g2
      simp at h0 h1 h2
      subst h0 h1 h2
      exact ⟨(k, m, s), rfl, i64_top hw⟩
theorem open_acts {fuel : Nat} {a : Option Addr} {len cap : Nat} {x : DataW H × List MemPlace} (h : DataW.trod enc Try.prog w 0 spare held fuel 22 [.slice a len cap] = some x) :
    (∃ l, IsAs w a len l ∧ ∀ i, i < l.length → (l.getD i ac0).2.1 ≤ 9223372036854775807) ∧ len ≤ cap ∧ (a = none → cap = 0) := by
  rcases Deep.open_slice Try.underlying22 h with ⟨hcs, _⟩ | ⟨y, l, c, m, n, D, Pl, hcs, _, hl, hc, hm, _, hi⟩
  · simp at hcs
    obtain ⟨rfl, rfl, rfl⟩ := hcs
    exact ⟨⟨[], ⟨rfl, fun h0 => absurd h0 (by omega)⟩, fun i hi => absurd hi (by simp)⟩, Nat.le_refl _, fun _ => rfl⟩
  · simp at hcs
    obtain ⟨rfl, rfl, rfl⟩ := hcs
    refine ⟨?_, hl, fun e => by cases e⟩
    have hml : len ≤ m := by rw [hm]; split <;> omega
    rw [cellsA] at hi
    have hall : ∀ i, i < len → ∃ f : Ac, (∀ j, j < 3 → w.cell? ((y.add (i * 3)).add j) = [Value.int .i64 f.1, .int .i64 f.2.1, .string f.2.2][j]?) ∧ f.2.1 ≤ 9223372036854775807 := by
      intro i hi'
      obtain ⟨cs', hc', ht⟩ := hi i (by omega)
      obtain ⟨f, hf, htop⟩ := open_act_cells ht
      obtain ⟨_, _, hat⟩ := World.cells?_some hc'
      rw [hf] at hat
      exact ⟨f, hat, htop⟩
    obtain ⟨F, hF⟩ := Deep.choose_lt hall
    refine ⟨(List.range len).map F, ⟨by simp, ?_⟩, fun i hi' => by
      have hi2 : i < len := by simpa using hi'
      rw [show ((List.range len).map F).getD i ac0 = F i by simp [List.getD_eq_getElem?_getD, hi2]]
      exact (hF i hi2).2⟩
    intro h0
    obtain ⟨b, off, spot⟩ := y
    have hspot : spot = none := by
      have h00 := (hF 0 h0).1 0 (by omega)
      simpa [Addr.add] using World.cell?_spot (show World.cell? w _ = some (Value.int .i64 (F 0).1) from h00)
    subst hspot
    have hadd : ∀ i j : Nat, ((⟨b, off, none⟩ : Addr).add (i * 3)).add j = ⟨b, off + i * 3 + j, none⟩ := by
      intro i j
      rw [Go.WideShapes.add_plain, Go.WideShapes.add_plain]
    have hg : ∀ i, i < len → ((List.range len).map F).getD i ac0 = F i := by
      intro i hi'
      simp [List.getD_eq_getElem?_getD, hi']
    have h3 : ∀ i, i < len → w.cell? ⟨b, off + i * 3, none⟩ = some (.int .i64 (F i).1) ∧ w.cell? ⟨b, off + i * 3 + 1, none⟩ = some (.int .i64 (F i).2.1) ∧ w.cell? ⟨b, off + i * 3 + 2, none⟩ = some (.string (F i).2.2) := by
      intro i hi'
      have q0 := (hF i hi').1 0 (by omega)
      have q1 := (hF i hi').1 1 (by omega)
      have q2 := (hF i hi').1 2 (by omega)
      rw [hadd] at q0 q1 q2
      exact ⟨q0, q1, q2⟩
    refine ⟨b, off, rfl, cell_lt (h3 0 h0).1, fun i hi' => ?_⟩
    rw [hg i hi']
    exact h3 i hi'
theorem open_strs {fuel : Nat} {a : Option Addr} {len cap : Nat} {x : DataW H × List MemPlace} (h : DataW.trod enc Try.prog w 0 spare held fuel 35 [.slice a len cap] = some x) :
    ∃ l, SsAt w a len l := by
  rcases Deep.open_slice Try.underlying35 h with ⟨hcs, _⟩ | ⟨y, l, c, m, n, D, Pl, hcs, _, hl, hc, hm, _, hi⟩
  · simp at hcs
    obtain ⟨rfl, rfl, rfl⟩ := hcs
    exact ⟨[], ⟨rfl, fun h0 => absurd h0 (by omega)⟩⟩
  · simp at hcs
    obtain ⟨rfl, rfl, rfl⟩ := hcs
    have hml : len ≤ m := by rw [hm]; split <;> omega
    rw [cellsS] at hi
    have hall : ∀ i, i < len → ∃ f : ByteArray, w.cell? (y.add i) = some (.string f) := by
      intro i hi'
      obtain ⟨cs', hc', ht⟩ := hi i (by omega)
      obtain ⟨f, hf, _, _⟩ := DataW.trod_string Try.underlying9 ht
      obtain ⟨_, _, hat⟩ := World.cells?_some hc'
      rw [hf] at hat
      have := hat 0 (by omega)
      simp [Addr.add] at this
      exact ⟨f, by simpa [Addr.add] using this⟩
    obtain ⟨F, hF⟩ := Deep.choose_lt hall
    refine ⟨(List.range len).map F, ⟨by simp, ?_⟩⟩
    intro h0
    obtain ⟨b, off, spot⟩ := y
    have hspot : spot = none := by
      have h00 := hF 0 h0
      simpa [Addr.add] using World.cell?_spot h00
    subst hspot
    have h3 : ∀ i, i < len → w.cell? ⟨b, off + i, none⟩ = some (.string (F i)) := by
      intro i hi'
      have q0 := hF i hi'
      rw [Go.WideShapes.add_plain] at q0
      exact q0
    refine ⟨b, off, rfl, cell_lt (h3 0 h0), fun i hi' => ?_⟩
    have hi2 : i < len := by simpa using hi'
    rw [show ((List.range len).map F).getD i emp = F i by simp [List.getD_eq_getElem?_getD, hi2]]
    exact h3 i hi2
theorem open_ints {fuel : Nat} {a : Option Addr} {len cap : Nat} {x : DataW H × List MemPlace} (h : DataW.trod enc Try.prog w 0 spare held fuel 41 [.slice a len cap] = some x) :
    ∃ l, IsIs w a len l := by
  rcases Deep.open_slice Try.underlying41 h with ⟨hcs, _⟩ | ⟨y, l, c, m, n, D, Pl, hcs, _, hl, hc, hm, _, hi⟩
  · simp at hcs
    obtain ⟨rfl, rfl, rfl⟩ := hcs
    exact ⟨[], ⟨rfl, fun h0 => absurd h0 (by omega)⟩⟩
  · simp at hcs
    obtain ⟨rfl, rfl, rfl⟩ := hcs
    have hml : len ≤ m := by rw [hm]; split <;> omega
    rw [cellsK] at hi
    have hall : ∀ i, i < len → ∃ f : Int, w.cell? (y.add i) = some (.int .i64 f) := by
      intro i hi'
      obtain ⟨cs', hc', ht⟩ := hi i (by omega)
      obtain ⟨f, hf, _, _⟩ := DataW.trod_int Try.underlying3 ht
      obtain ⟨_, _, hat⟩ := World.cells?_some hc'
      rw [hf] at hat
      have := hat 0 (by omega)
      simp [Addr.add] at this
      exact ⟨f, by simpa [Addr.add] using this⟩
    obtain ⟨F, hF⟩ := Deep.choose_lt hall
    refine ⟨(List.range len).map F, ⟨by simp, ?_⟩⟩
    intro h0
    obtain ⟨b, off, spot⟩ := y
    have hspot : spot = none := by
      have h00 := hF 0 h0
      simpa [Addr.add] using World.cell?_spot h00
    subst hspot
    have h3 : ∀ i, i < len → w.cell? ⟨b, off + i, none⟩ = some (.int .i64 (F i)) := by
      intro i hi'
      have q0 := hF i hi'
      rw [Go.WideShapes.add_plain] at q0
      exact q0
    refine ⟨b, off, rfl, cell_lt (h3 0 h0), fun i hi' => ?_⟩
    rw [show ((List.range len).map F).getD i 0 = F i by simp [List.getD_eq_getElem?_getD, hi']]
    exact h3 i hi'
end Go.Proofs.Ytlmnncablfbafaa
