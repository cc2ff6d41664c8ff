/- What calls, texts, numbers and a frame that came in read as. -/
import Derived.Test.YtclobdejlihblaaRows
import Derived.Test.YtclobdejlihblaaJ9
import Derived.WalkKit
import Derived.ProofKit
import Derived.OpenShut
import Derived.Deep.Slices
import Derived.Laws.IdiomArrays
import Derived.Lib.SmallJoins
namespace Go.Proofs.Ytclobdejlihblaa
open Go Go.ChangeShapes Go.WideShapes Go.ChangeAt Go.RowKit Go.Joins
set_option maxRecDepth 20000
theorem own : ownKnob Try.prog.godebug = none := by kernel_rfl
theorem laidOut : laidOutB Try.prog = true := by kernel_rfl
theorem cellsA : Try.prog.cellsOf 33 = 6 := by kernel_rfl
theorem cellsF : Try.prog.cellsOf 31 = 4 := by kernel_rfl
theorem cellsS : Try.prog.cellsOf 9 = 1 := by kernel_rfl
theorem cellsK : Try.prog.cellsOf 3 = 1 := by kernel_rfl
theorem cell_lt {w : World} {b o : Nat} {v : Value} (h : w.cell? ⟨b, o, none⟩ = some v) : b < w.heap.size := by
  rcases Nat.lt_or_ge b w.heap.size with hx | hx
  · exact hx
  · simp [World.cell?, Array.getElem?_eq_none hx] at h
variable {H : Type} {enc : TypeId × Value → H} {w : World} {spare : Nat → Bool} {held : Bool}
theorem fieldsF : ∃ f0 f1 f2 f3 : Field, Try.prog.underlying 31 = some (.struct #[f0, f1, f2, f3]) ∧ (f0.type, f0.offset) = (3, 0) ∧ (f1.type, f1.offset) = (3, 1) ∧ (f2.type, f2.offset) = (3, 2) ∧ (f3.type, f3.offset) = (9, 3) := ⟨_, _, _, _, Try.underlying31, rfl, rfl, rfl, rfl⟩
theorem open_frm_cells {base : Nat} {fuel : Nat} {cs : List Value} {x : DataW H × List MemPlace} (h : DataW.trod enc Try.prog w base spare held fuel 31 cs = some x) :
    ∃ u : Fra, cs = [.int .i64 u.1, .int .i64 u.2.1, .int .i64 u.2.2.1, .string u.2.2.2] := by
  obtain ⟨f0, f1, f2, f3, hu, e0, e1, e2, e3⟩ := fieldsF
  simp only [Prod.mk.injEq] at e0 e1 e2 e3
  obtain ⟨xs, n, _, _, hlen, hxl, hg⟩ := DataW.trod_struct hu h
  rw [cellsF] at hlen
  match cs, hlen with
  | [c0, c1, c2, c3], _ =>
    match xs, hxl with
    | [y0, y1, y2, y3], _ =>
      have g0 := hg 0 f0 rfl
      have g1 := hg 1 f1 rfl
      have g2 := hg 2 f2 rfl
      have g3 := hg 3 f3 rfl
      rw [e0.1, e0.2, cellsK] at g0
      rw [e1.1, e1.2, cellsK] at g1
      rw [e2.1, e2.2, cellsK] at g2
      rw [e3.1, e3.2, cellsS] at g3
      obtain ⟨k, h0, _, _⟩ := DataW.trod_int Try.underlying3 (x := y0) g0
      obtain ⟨m, h1, _, _⟩ := DataW.trod_int Try.underlying3 (x := y1) g1
      obtain ⟨n, h2, _, _⟩ := DataW.trod_int Try.underlying3 (x := y2) g2
      obtain ⟨s, h3, _, _⟩ := DataW.trod_string Try.underlying9 (x := y3) g3
      simp at h0 h1 h2 h3
      subst h0 h1 h2 h3
      exact ⟨(k, m, n, s), rfl⟩
theorem open_frm {r : Reach} {b0 base : Nat} {v : Value} {d : DataW H} {p : List MemPlace} (hv : Value.okWide Try.prog w r b0 31 v) (h : DataW.Trod enc Try.prog w base spare held 31 v d p) : ∃ x : Fra, v = fv x := by
  obtain ⟨c0, c1, c2, c3, y0, y1, y2, y3, m, rfl, _, _, h0, h1, h2, h3⟩ := open_agg4 Try.underlying31 (by kernel_rfl) cellsF hv h
  obtain ⟨k, e0, _, _⟩ := DataW.trod_int Try.underlying3 h0
  obtain ⟨n, e1, _, _⟩ := DataW.trod_int Try.underlying3 h1
  obtain ⟨a, e2, _, _⟩ := DataW.trod_int Try.underlying3 h2
  obtain ⟨s, e3, _, _⟩ := DataW.trod_string Try.underlying9 h3
  simp at e0 e1 e2 e3
  subst e0 e1 e2 e3
  exact ⟨(k, n, a, s), rfl⟩
theorem fieldsA : ∃ f0 f1 f2 : Field, Try.prog.underlying 33 = some (.struct #[f0, f1, f2]) ∧ (f0.type, f0.offset) = (3, 0) ∧ (f1.type, f1.offset) = (9, 1) ∧ (f2.type, f2.offset) = (31, 2) := ⟨_, _, _, Try.underlying33, rfl, rfl, rfl⟩
/-- One call that is read: its six cells. -/
theorem open_act_cells {base : Nat} {fuel : Nat} {cs : List Value} {x : DataW H × List MemPlace} (h : DataW.trod enc Try.prog w base spare held fuel 33 cs = some x) :
    ∃ u : Ac, cs = [.int .i64 u.1, .string u.2.1, .int .i64 u.2.2.1, .int .i64 u.2.2.2.1, .int .i64 u.2.2.2.2.1, .string u.2.2.2.2.2] := by
  obtain ⟨f0, f1, f2, hu, e0, e1, e2⟩ := fieldsA
  simp only [Prod.mk.injEq] at e0 e1 e2
  obtain ⟨xs, n, _, _, hlen, hxl, hg⟩ := DataW.trod_struct hu h
  rw [cellsA] at hlen
  match cs, hlen with
  | [c0, c1, c2, c3, c4, c5], _ =>
    match xs, hxl with
    | [y0, y1, y2], _ =>
      have g0 := hg 0 f0 rfl
      have g1 := hg 1 f1 rfl
      have g2 := hg 2 f2 rfl
      rw [e0.1, e0.2, cellsK] at g0
      rw [e1.1, e1.2, cellsS] at g1
      rw [e2.1, e2.2, cellsF] at g2
      obtain ⟨k, h0, _, _⟩ := DataW.trod_int Try.underlying3 (x := y0) g0
      obtain ⟨s, h1, _, _⟩ := DataW.trod_string Try.underlying9 (x := y1) g1
      obtain ⟨f, h2⟩ := open_frm_cells (x := y2) g2
      simp at h0 h1 h2
      obtain ⟨rfl, rfl, rfl, rfl⟩ := h2
      subst h0 h1
      exact ⟨(k, s, f), rfl⟩
theorem open_acts {fuel : Nat} {a : Option Addr} {len cap : Nat} {x : DataW H × List MemPlace} (h : DataW.trod enc Try.prog w 0 spare held fuel 23 [.slice a len cap] = some x) :
    ∃ l, IsAs w a len l := by
  rcases Deep.open_slice Try.underlying23 h with ⟨hcs, _⟩ | ⟨y, l, c, m, n, D, Pl, hcs, _, hl, hc, hm, _, hi⟩
  · simp at hcs
    obtain ⟨rfl, rfl, rfl⟩ := hcs
    exact ⟨[], ⟨rfl, fun h0 => absurd h0 (by omega)⟩⟩
  · simp at hcs
    obtain ⟨rfl, rfl, rfl⟩ := hcs
    have hml : len ≤ m := by rw [hm]; split <;> omega
    rw [cellsA] at hi
    have hall : ∀ i, i < len → ∃ f : Ac, ∀ j, j < 6 → w.cell? ((y.add (i * 6)).add j) = [Value.int .i64 f.1, .string f.2.1, .int .i64 f.2.2.1, .int .i64 f.2.2.2.1, .int .i64 f.2.2.2.2.1, .string f.2.2.2.2.2][j]? := by
      intro i hi'
      obtain ⟨cs', hc', ht⟩ := hi i (by omega)
      obtain ⟨f, hf⟩ := open_act_cells ht
      obtain ⟨_, _, hat⟩ := World.cells?_some hc'
      rw [hf] at hat
      exact ⟨f, hat⟩
    obtain ⟨F, hF⟩ := Deep.choose_lt hall
    refine ⟨(List.range len).map F, ⟨by simp, ?_⟩⟩
    intro h0
    obtain ⟨b, off, spot⟩ := y
    have hspot : spot = none := by
      have h00 := (hF 0 h0) 0 (by omega)
      simpa [Addr.add] using World.cell?_spot (show World.cell? w _ = some (Value.int .i64 (F 0).1) from h00)
    subst hspot
    have hadd : ∀ i j : Nat, ((⟨b, off, none⟩ : Addr).add (i * 6)).add j = ⟨b, off + i * 6 + j, none⟩ := by
      intro i j
      rw [Go.WideShapes.add_plain, Go.WideShapes.add_plain]
    have hg : ∀ i, i < len → ((List.range len).map F).getD i ac0 = F i := by
      intro i hi'
      simp [List.getD_eq_getElem?_getD, hi']
    have h3 : ∀ i, i < len → A6 w b (off + i * 6) (F i) := by
      intro i hi'
      have q0 := hF i hi' 0 (by omega)
      have q1 := hF i hi' 1 (by omega)
      have q2 := hF i hi' 2 (by omega)
      have q3 := hF i hi' 3 (by omega)
      have q4 := hF i hi' 4 (by omega)
      have q5 := hF i hi' 5 (by omega)
      rw [hadd] at q0 q1 q2 q3 q4 q5
      exact ⟨q0, q1, q2, q3, q4, q5⟩
    refine ⟨b, off, rfl, cell_lt (h3 0 h0).k, fun i hi' => ?_⟩
    rw [hg i hi']
    exact h3 i hi'
theorem open_strs {fuel : Nat} {a : Option Addr} {len cap : Nat} {x : DataW H × List MemPlace} (h : DataW.trod enc Try.prog w 0 spare held fuel 51 [.slice a len cap] = some x) :
    ∃ l, SsAt w a len l := by
  rcases Deep.open_slice Try.underlying51 h with ⟨hcs, _⟩ | ⟨y, l, c, m, n, D, Pl, hcs, _, hl, hc, hm, _, hi⟩
  · simp at hcs
    obtain ⟨rfl, rfl, rfl⟩ := hcs
    exact ⟨[], ⟨rfl, fun h0 => absurd h0 (by omega)⟩⟩
  · simp at hcs
    obtain ⟨rfl, rfl, rfl⟩ := hcs
    have hml : len ≤ m := by rw [hm]; split <;> omega
    rw [cellsS] at hi
    have hall : ∀ i, i < len → ∃ f : ByteArray, w.cell? (y.add i) = some (.string f) := by
      intro i hi'
      obtain ⟨cs', hc', ht⟩ := hi i (by omega)
      obtain ⟨f, hf, _, _⟩ := DataW.trod_string Try.underlying9 ht
      obtain ⟨_, _, hat⟩ := World.cells?_some hc'
      rw [hf] at hat
      have := hat 0 (by omega)
      simp [Addr.add] at this
      exact ⟨f, by simpa [Addr.add] using this⟩
    obtain ⟨F, hF⟩ := Deep.choose_lt hall
    refine ⟨(List.range len).map F, ⟨by simp, ?_⟩⟩
    intro h0
    obtain ⟨b, off, spot⟩ := y
    have hspot : spot = none := by
      have h00 := hF 0 h0
      simpa [Addr.add] using World.cell?_spot h00
    subst hspot
    have h3 : ∀ i, i < len → w.cell? ⟨b, off + i, none⟩ = some (.string (F i)) := by
      intro i hi'
      have q0 := hF i hi'
      rw [Go.WideShapes.add_plain] at q0
      exact q0
    refine ⟨b, off, rfl, cell_lt (h3 0 h0), fun i hi' => ?_⟩
    have hi2 : i < len := by simpa using hi'
    rw [show ((List.range len).map F).getD i emp = F i by simp [List.getD_eq_getElem?_getD, hi2]]
    exact h3 i hi2
/-- What the walk is told of a row of small numbers. -/
structure IsUs (w : World) (a : Option Addr) (len : Nat) (l : List Int) : Prop where
  size : l.length = len
  lies : 0 < len → ∃ b off, a = some ⟨b, off, none⟩ ∧ b < w.heap.size ∧ ∀ i, i < len → w.cell? ⟨b, off + i, none⟩ = some (.int .u16 (l.getD i 0)) ∧ 0 ≤ l.getD i 0 ∧ l.getD i 0 ≤ 65535
theorem cellsU : Try.prog.cellsOf 59 = 1 := by kernel_rfl
theorem u16_top {m : Int} (h : (Lit.int .u16 m).wf = true) : 0 ≤ m ∧ m ≤ 65535 := by
  have e1 : IntKind.u16.min = 0 := by rfl
  have e2 : IntKind.u16.max = 65535 := by rfl
  simp [Lit.wf, e1, e2] at h
  omega
theorem open_u16s {fuel : Nat} {a : Option Addr} {len cap : Nat} {x : DataW H × List MemPlace} (h : DataW.trod enc Try.prog w 0 spare held fuel 58 [.slice a len cap] = some x) :
    ∃ l, IsUs w a len l := by
  rcases Deep.open_slice Try.underlying58 h with ⟨hcs, _⟩ | ⟨y, l, c, m, n, D, Pl, hcs, _, hl, hc, hm, _, hi⟩
  · simp at hcs
    obtain ⟨rfl, rfl, rfl⟩ := hcs
    exact ⟨[], ⟨rfl, fun h0 => absurd h0 (by omega)⟩⟩
  · simp at hcs
    obtain ⟨rfl, rfl, rfl⟩ := hcs
    have hml : len ≤ m := by rw [hm]; split <;> omega
    rw [cellsU] at hi
    have hall : ∀ i, i < len → ∃ f : Int, w.cell? (y.add i) = some (.int .u16 f) ∧ 0 ≤ f ∧ f ≤ 65535 := by
      intro i hi'
      obtain ⟨cs', hc', ht⟩ := hi i (by omega)
      obtain ⟨f, hf, _, hw⟩ := DataW.trod_int Try.underlying59 ht
      obtain ⟨_, _, hat⟩ := World.cells?_some hc'
      rw [hf] at hat
      have := hat 0 (by omega)
      simp [Addr.add] at this
      exact ⟨f, by simpa [Addr.add] using this, u16_top hw⟩
    obtain ⟨F, hF⟩ := Deep.choose_lt hall
    refine ⟨(List.range len).map F, ⟨by simp, ?_⟩⟩
    intro h0
    obtain ⟨b, off, spot⟩ := y
    have hspot : spot = none := by
      have h00 := (hF 0 h0).1
      simpa [Addr.add] using World.cell?_spot h00
    subst hspot
    have h3 : ∀ i, i < len → w.cell? ⟨b, off + i, none⟩ = some (.int .u16 (F i)) := by
      intro i hi'
      have q0 := (hF i hi').1
      rw [Go.WideShapes.add_plain] at q0
      exact q0
    refine ⟨b, off, rfl, cell_lt (h3 0 h0), fun i hi' => ?_⟩
    rw [show ((List.range len).map F).getD i 0 = F i by simp [List.getD_eq_getElem?_getD, hi']]
    exact ⟨h3 i hi', (hF i hi').2⟩
theorem trod_array2 {base : Nat} {t e : TypeId} {fuel : Nat} {c0 c1 : Value} {x : DataW H × List MemPlace} (ht : Try.prog.underlying t = some (.array 2 e)) (hce : Try.prog.cellsOf e = 1)
    (h : DataW.trod enc Try.prog w base spare held fuel t [c0, c1] = some x) :
    ∃ y0 y1 n, DataW.trod enc Try.prog w base spare held n e [c0] = some y0 ∧ DataW.trod enc Try.prog w base spare held n e [c1] = some y1 := by
  cases fuel with
  | zero => simp [DataW.trod] at h
  | succ n =>
    unfold DataW.trod at h
    rw [ht] at h
    have r2 : List.range 2 = [0, 1] := rfl
    simp [r2, hce] at h
    obtain ⟨_, h⟩ := h
    cases h0 : DataW.trod enc Try.prog w base spare held n e [c0] with
    | none => simp [h0] at h
    | some y0 =>
      cases h1 : DataW.trod enc Try.prog w base spare held n e [c1] with
      | none => simp [h0, h1] at h
      | some y1 => exact ⟨y0, y1, n, h0, h1⟩
theorem cellsI2 : Try.prog.cellsOf 57 = 2 := by kernel_rfl
theorem open_i2 {r : Reach} {b0 base : Nat} {v : Value} {d : DataW H} {p : List MemPlace} (hv : Value.okWide Try.prog w r b0 57 v) (h : DataW.Trod enc Try.prog w base spare held 57 v d p) : ∃ a b : Int, v = .agg #[.int .i64 a, .int .i64 b] := by
  obtain ⟨cs, rfl, hsz, _⟩ : ∃ cs, v = .agg cs ∧ cs.size = Try.prog.cellsOf 57 ∧ Row.okWide Try.prog w r b0 57 cs := by
    simpa [Value.okWide, Try.underlying57] using hv
  obtain ⟨c0, c1, rfl⟩ := array2 (hsz.trans cellsI2)
  obtain ⟨fuel, hf⟩ := h
  obtain ⟨y0, y1, m, h0, h1⟩ := trod_array2 Try.underlying57 cellsK hf
  obtain ⟨n0, e0, _, _⟩ := DataW.trod_int Try.underlying3 h0
  obtain ⟨n1, e1, _, _⟩ := DataW.trod_int Try.underlying3 h1
  simp at e0 e1
  subst e0 e1
  exact ⟨n0, n1, rfl⟩
theorem cellsI3 : Try.prog.cellsOf 22 = 3 := by kernel_rfl
theorem open_i3 {r : Reach} {b0 base : Nat} {v : Value} {d : DataW H} {p : List MemPlace} (hv : Value.okWide Try.prog w r b0 22 v) (h : DataW.Trod enc Try.prog w base spare held 22 v d p) : ∃ n a b : Int, v = .agg #[.int .i64 n, .int .i64 a, .int .i64 b] := by
  obtain ⟨cs, rfl, hsz, _⟩ : ∃ cs, v = .agg cs ∧ cs.size = Try.prog.cellsOf 22 ∧ Row.okWide Try.prog w r b0 22 cs := by
    simpa [Value.okWide, Try.underlying22] using hv
  obtain ⟨c0, c1, c2, rfl⟩ := array3 (hsz.trans cellsI3)
  obtain ⟨fuel, hf⟩ := h
  obtain ⟨y0, y1, y2, m, _, h0, h1, h2⟩ := trod_array3 Try.underlying22 cellsK hf
  obtain ⟨n0, e0, _, _⟩ := DataW.trod_int Try.underlying3 h0
  obtain ⟨n1, e1, _, _⟩ := DataW.trod_int Try.underlying3 h1
  obtain ⟨n2, e2, _, _⟩ := DataW.trod_int Try.underlying3 h2
  simp at e0 e1 e2
  subst e0 e1 e2
  exact ⟨n0, n1, n2, rfl⟩
end Go.Proofs.Ytclobdejlihblaa
