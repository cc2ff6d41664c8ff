/- What lists of lists of updates, and two numbers, that came in read as. -/
import Derived.Test.YtonjdpchocdghaaRows
import Derived.Test.YtonjdpchocdghaaIB
import Derived.WalkKit
import Derived.ProofKit
import Derived.OpenShut
import Derived.Deep.Slices
import Derived.Laws.IdiomArrays
import Derived.Lib.SmallJoins
namespace Go.Proofs.Ytonjdpchocdghaa
open Go Go.ChangeShapes Go.WideShapes Go.ChangeAt Go.RowKit Go.Joins
set_option maxRecDepth 20000
theorem own : ownKnob Try.prog.godebug = none := by kernel_rfl
theorem laidOut : laidOutB Try.prog = true := by kernel_rfl
theorem bd_i64 {n : Int} (h : (Lit.int .i64 n).wf = true) : -9223372036854775808 ≤ n ∧ n ≤ 9223372036854775807 := by
  have := bounds_i64 h; omega
/-- A number of 64 bits. -/
def In64 (n : Int) : Prop := -9223372036854775808 ≤ n ∧ n ≤ 9223372036854775807
theorem cellsU : Try.prog.cellsOf 50 = 4 := by kernel_rfl
theorem cellsI : Try.prog.cellsOf 2 = 1 := by kernel_rfl
theorem cellsS : Try.prog.cellsOf 9 = 1 := by kernel_rfl
theorem cellsK : Try.prog.cellsOf 3 = 1 := by kernel_rfl
theorem cell_lt {w : World} {b o : Nat} {v : Value} (h : w.cell? ⟨b, o, none⟩ = some v) : b < w.heap.size := by
  rcases Nat.lt_or_ge b w.heap.size with hx | hx
  · exact hx
  · simp [World.cell?, Array.getElem?_eq_none hx] at h
variable {H : Type} {enc : TypeId × Value → H} {w : World} {spare : Nat → Bool} {held : Bool}
instance : Inhabited Rn := ⟨rn0⟩
theorem fieldsU : ∃ f0 f1 f2 f3 : Field, Try.prog.underlying 50 = some (.struct #[f0, f1, f2, f3]) ∧ (f0.type, f0.offset) = (9, 0) ∧ (f1.type, f1.offset) = (3, 1) ∧ (f2.type, f2.offset) = (2, 2) ∧ (f3.type, f3.offset) = (9, 3) := ⟨_, _, _, _, Try.underlying50, rfl, rfl, rfl, rfl⟩
/-- One update that is read: its four cells. -/
theorem open_upd_cells {base : Nat} {fuel : Nat} {cs : List Value} {x : DataW H × List MemPlace} (h : DataW.trod enc Try.prog w base spare held fuel 50 cs = some x) :
    ∃ u : Up, cs = [.string u.1, .int .i64 u.2.1, .int .i64 u.2.2.1, .string u.2.2.2] ∧ In64 u.2.2.1 := by
  obtain ⟨f0, f1, f2, f3, hu, e0, e1, e2, e3⟩ := fieldsU
  simp only [Prod.mk.injEq] at e0 e1 e2 e3
  obtain ⟨xs, n, _, _, hlen, hxl, hg⟩ := DataW.trod_struct hu h
  rw [cellsU] at hlen
  match cs, hlen with
  | [c0, c1, c2, c3], _ =>
    match xs, hxl with
    | [y0, y1, y2, y3], _ =>
      have g0 := hg 0 f0 rfl
      have g1 := hg 1 f1 rfl
      have g2 := hg 2 f2 rfl
      have g3 := hg 3 f3 rfl
      rw [e0.1, e0.2, cellsS] at g0
      rw [e1.1, e1.2, cellsK] at g1
      rw [e2.1, e2.2, cellsI] at g2
      rw [e3.1, e3.2, cellsS] at g3
      obtain ⟨key, h0, _, _⟩ := DataW.trod_string Try.underlying9 (x := y0) g0
      obtain ⟨k, h1, _, _⟩ := DataW.trod_int Try.underlying3 (x := y1) g1
      obtain ⟨m, h2, _, wm⟩ := DataW.trod_int Try.underlying2 (x := y2) g2
      obtain ⟨s, h3, _, _⟩ := DataW.trod_string Try.underlying9 (x := y3) g3
      simp at h0 h1 h2 h3
      subst h0 h1 h2 h3
      exact ⟨(key, k, m, s), rfl, bd_i64 wm⟩
theorem open_ups {fuel : Nat} {a : Option Addr} {len cap : Nat} {x : DataW H × List MemPlace} (h : DataW.trod enc Try.prog w 0 spare held fuel 30 [.slice a len cap] = some x) :
    (∃ us, IsUs w a len us ∧ ∀ u ∈ us, In64 u.2.2.1) ∧ len ≤ cap ∧ (a = none → cap = 0) := by
  rcases Deep.open_slice Try.underlying30 h with ⟨hcs, _⟩ | ⟨y, l, c, m, n, D, Pl, hcs, _, hl, hc, hm, _, hi⟩
  · simp at hcs
    obtain ⟨rfl, rfl, rfl⟩ := hcs
    exact ⟨⟨[], ⟨rfl, fun h0 => absurd h0 (by omega)⟩, by simp⟩, Nat.le_refl _, fun _ => rfl⟩
  · simp at hcs
    obtain ⟨rfl, rfl, rfl⟩ := hcs
    refine ⟨?_, hl, fun e => by cases e⟩
    have hml : len ≤ m := by rw [hm]; split <;> omega
    rw [cellsU] at hi
    have hall : ∀ i, i < len → ∃ f : Up, (∀ j, j < 4 → w.cell? ((y.add (i * 4)).add j) = [Value.string f.1, .int .i64 f.2.1, .int .i64 f.2.2.1, .string f.2.2.2][j]?) ∧ In64 f.2.2.1 := by
      intro i hi'
      obtain ⟨cs', hc', ht⟩ := hi i (by omega)
      obtain ⟨f, hf, h1⟩ := open_upd_cells ht
      obtain ⟨_, _, hat⟩ := World.cells?_some hc'
      rw [hf] at hat
      exact ⟨f, hat, h1⟩
    obtain ⟨F, hF⟩ := Deep.choose_lt hall
    refine ⟨(List.range len).map F, ⟨by simp, ?_⟩, ?_⟩
    · intro h0
      obtain ⟨b, off, spot⟩ := y
      have hspot : spot = none := by
        have h00 := (hF 0 h0).1 0 (by omega)
        simpa [Addr.add] using World.cell?_spot (show World.cell? w _ = some (Value.string (F 0).1) from h00)
      subst hspot
      have hadd : ∀ i j : Nat, ((⟨b, off, none⟩ : Addr).add (i * 4)).add j = ⟨b, off + i * 4 + j, none⟩ := by
        intro i j
        rw [Go.WideShapes.add_plain, Go.WideShapes.add_plain]
      have hg : ∀ i, i < ((List.range len).map F).length → ((List.range len).map F).getD i up0 = F i ∧ i < len := by
        intro i hi'
        have : i < len := by simpa using hi'
        exact ⟨by simp [List.getD_eq_getElem?_getD, this], this⟩
      refine ⟨b, off, rfl, ⟨?_, ?_, ?_, ?_⟩⟩
      · intro i hi'
        obtain ⟨e, hl'⟩ := hg i hi'
        have := (hF i hl').1 0 (by omega)
        rw [hadd] at this
        rw [e]; exact this
      · intro i hi'
        obtain ⟨e, hl'⟩ := hg i hi'
        have := (hF i hl').1 1 (by omega)
        rw [hadd] at this
        rw [e]; exact this
      · intro i hi'
        obtain ⟨e, hl'⟩ := hg i hi'
        have := (hF i hl').1 2 (by omega)
        rw [hadd] at this
        rw [e]; exact this
      · intro i hi'
        obtain ⟨e, hl'⟩ := hg i hi'
        have := (hF i hl').1 3 (by omega)
        rw [hadd] at this
        rw [e]; exact this
    · intro u hu
      simp at hu
      obtain ⟨i, hi', rfl⟩ := hu
      exact (hF i hi').2
theorem cellsUs : Try.prog.cellsOf 30 = 1 := by kernel_rfl
theorem open_us {fuel : Nat} {c : Value} {x : DataW H × List MemPlace} (h : DataW.trod enc Try.prog w 0 spare held fuel 30 [c] = some x) : ∃ a len cap us, c = .slice a len cap ∧ IsUs w a len us ∧ len ≤ cap ∧ (a = none → cap = 0) := by
  have hf : ∃ a len cap, c = .slice a len cap := by
    rcases Deep.open_slice Try.underlying30 h with ⟨hcs, _⟩ | ⟨y, l, c, m, n, D, Pl, hcs, _⟩
    · simp at hcs; exact ⟨_, _, _, hcs⟩
    · simp at hcs; exact ⟨_, _, _, hcs⟩
  obtain ⟨a, len, cap, rfl⟩ := hf
  obtain ⟨⟨us, hu, _⟩, hlc, hno⟩ := open_ups h
  exact ⟨a, len, cap, us, rfl, hu, hlc, hno⟩
theorem open_lss {fuel : Nat} {a : Option Addr} {len cap : Nat} {x : DataW H × List MemPlace} (h : DataW.trod enc Try.prog w 0 spare held fuel 23 [.slice a len cap] = some x) :
    ∃ ls, IsLs w a len ls := by
  rcases Deep.open_slice Try.underlying23 h with ⟨hcs, _⟩ | ⟨y, l, c, m, n, D, Pl, hcs, _, hl, hc, hm, _, hi⟩
  · simp at hcs
    obtain ⟨rfl, rfl, rfl⟩ := hcs
    exact ⟨[], rfl, fun h => absurd h (Nat.lt_irrefl _), fun r hr => (by cases hr)⟩
  · simp at hcs
    obtain ⟨rfl, rfl, rfl⟩ := hcs
    have hml : len ≤ m := by rw [hm]; split <;> omega
    rw [cellsUs] at hi
    have hall : ∀ i, i < len → ∃ f : Rn, (∀ j, j < 1 → w.cell? ((y.add (i * 1)).add j) = [Value.slice f.a f.len f.cap][j]?) ∧ Ru w f := by
      intro i hi'
      obtain ⟨cs', hc', ht⟩ := hi i (by omega)
      obtain ⟨hlen, _, hat⟩ := World.cells?_some hc'
      match cs', hlen with
      | [c0], _ =>
        obtain ⟨a', l', c', us, e, hus, hlc, hno⟩ := open_us ht
        subst e
        exact ⟨⟨0, 0, a', l', c', us⟩, hat, hus, hlc, hno⟩
    obtain ⟨F, hF⟩ := Deep.choose_lt hall
    have hadd : ∀ b off i j : Nat, ((⟨b, off, none⟩ : Addr).add (i * 1)).add j = ⟨b, off + i * 1 + j, none⟩ := by
      intro b off i j
      rw [Go.WideShapes.add_plain, Go.WideShapes.add_plain]
    refine ⟨(List.range len).map F, by simp, fun h0 => ?_, fun r hr => ?_⟩
    · obtain ⟨b, off, spot⟩ := y
      have hspot : spot = none := by
        have h00 := (hF 0 h0).1 0 (by omega)
        simpa [Addr.add] using World.cell?_spot (show World.cell? w _ = some (Value.slice (F 0).a (F 0).len (F 0).cap) from h00)
      subst hspot
      refine ⟨b, off, rfl, ?_, fun i hi' => ?_⟩
      · have h00 := (hF 0 h0).1 0 (by omega)
        rw [hadd] at h00
        exact cell_lt h00
      · have t0 := (hF i hi').1 0 (by omega)
        rw [hadd] at t0
        have e : ((List.range len).map F).getD i rn0 = F i := by simp [List.getD_eq_getElem?_getD, hi']
        rw [e, show off + i = off + i * 1 + 0 by omega]
        exact t0
    · simp at hr
      obtain ⟨i, hi', rfl⟩ := hr
      exact (hF i hi').2
theorem trod_array2 {base : Nat} {t e : TypeId} {fuel : Nat} {c0 c1 : Value} {x : DataW H × List MemPlace} (ht : Try.prog.underlying t = some (.array 2 e)) (hce : Try.prog.cellsOf e = 1)
    (h : DataW.trod enc Try.prog w base spare held fuel t [c0, c1] = some x) :
    ∃ y0 y1 n, DataW.trod enc Try.prog w base spare held n e [c0] = some y0 ∧ DataW.trod enc Try.prog w base spare held n e [c1] = some y1 := by
  cases fuel with
  | zero => simp [DataW.trod] at h
  | succ n =>
    unfold DataW.trod at h
    rw [ht] at h
    have r2 : List.range 2 = [0, 1] := rfl
    simp [r2, hce] at h
    obtain ⟨_, h⟩ := h
    cases h0 : DataW.trod enc Try.prog w base spare held n e [c0] with
    | none => simp [h0] at h
    | some y0 =>
      cases h1 : DataW.trod enc Try.prog w base spare held n e [c1] with
      | none => simp [h0, h1] at h
      | some y1 => exact ⟨y0, y1, n, h0, h1⟩
theorem cellsI2 : Try.prog.cellsOf 22 = 2 := by kernel_rfl
theorem open_i2 {r : Reach} {b0 base : Nat} {v : Value} {d : DataW H} {p : List MemPlace} (hv : Value.okWide Try.prog w r b0 22 v) (h : DataW.Trod enc Try.prog w base spare held 22 v d p) : ∃ a b : Int, v = .agg #[.int .i64 a, .int .i64 b] := by
  obtain ⟨cs, rfl, hsz, _⟩ : ∃ cs, v = .agg cs ∧ cs.size = Try.prog.cellsOf 22 ∧ Row.okWide Try.prog w r b0 22 cs := by
    simpa [Value.okWide, Try.underlying22] using hv
  obtain ⟨c0, c1, rfl⟩ := array2 (hsz.trans cellsI2)
  obtain ⟨fuel, hf⟩ := h
  obtain ⟨y0, y1, m, h0, h1⟩ := trod_array2 Try.underlying22 cellsK hf
  obtain ⟨n0, e0, _, _⟩ := DataW.trod_int Try.underlying3 h0
  obtain ⟨n1, e1, _, _⟩ := DataW.trod_int Try.underlying3 h1
  simp at e0 e1
  subst e0 e1
  exact ⟨n0, n1, rfl⟩
end Go.Proofs.Ytonjdpchocdghaa
