/- What four numbers, a round, calls that came in read as; the listed table. -/
import Derived.Test.YtbbgibekplfacaaDoorRows
import Derived.Test.YtbbgibekplfacaaDoorNC
import Derived.WalkKit
import Derived.ProofKit
import Derived.OpenShut
import Derived.LaidMore
import Derived.Lib.LaidTab
import Derived.Stop.Joined
import Derived.Deep.Slices
import Derived.Laws.IdiomArrays
import Derived.Lib.SmallJoins
namespace Go.Proofs.YtbbgibekplfacaaDoor
open Go Go.ChangeShapes Go.WideShapes Go.ChangeAt Go.RowKit Go.Joins
set_option maxRecDepth 20000
theorem own : ownKnob Tryd.prog.godebug = none := by kernel_rfl
theorem laidOut : laidOutB Tryd.prog = true := by kernel_rfl
/-- What the rows list. -/
def laidW : List (String × DataW Unit) := [("chapbook/prefix.widths", Rows.laid_chapbook_prefix_widths)]
theorem gW : Tryd.prog.globalNamed "chapbook/prefix.widths" = some 0 := by kernel_rfl
theorem tW : (Tryd.prog.globals[0]?).map (·.type) = some 22 := by kernel_rfl
theorem cells3 : Tryd.prog.cellsOf 3 = 1 := by kernel_rfl
theorem cells51 : Tryd.prog.cellsOf 22 = 4 := by kernel_rfl
theorem door_met (os : Os) (args : Array Value) : laidMetH Tryd.prog laidW ((World.doorLaid Tryd.prog 400 os).forCall (fun _ _ => 0) ⟨#[], args, []⟩).memory :=
  laidMetH_of_parts3 (fuel := 8) (laidMet_of_run' 8 (by kernel_rfl) (by kernel_rfl)) (by kernel_rfl) (by kernel_rfl)
theorem wd_of_laid {W : World} (h : laidMetH Tryd.prog laidW W) : X.Wd W := by
  rw [MakeChecks.laidMetH_plain _ _ _ (by kernel_rfl)] at h
  have hT := Lib.tabIs_of_head (zs := [1, 2, 4, 8]) (k := .i64) gW tW Tryd.underlying22 Tryd.underlying3 cells3 cells51 h
  have c0 := hT.cell gW 0 (by decide)
  refine ⟨c0, hT.cell gW 1 (by decide), hT.cell gW 2 (by decide), hT.cell gW 3 (by decide), ?_⟩
  rcases Nat.eq_zero_or_pos W.heap.size with h0 | h0
  · simp [World.cell?, h0] at c0
  · exact h0
theorem bd_i64 {n : Int} (h : (Lit.int .i64 n).wf = true) : -9223372036854775808 ≤ n ∧ n ≤ 9223372036854775807 := by
  have := bounds_i64 h; omega
/-- A number of 64 bits. -/
def In64 (n : Int) : Prop := -9223372036854775808 ≤ n ∧ n ≤ 9223372036854775807
theorem cellsU : Tryd.prog.cellsOf 32 = 4 := by kernel_rfl
theorem cellsI : Tryd.prog.cellsOf 2 = 1 := by kernel_rfl
theorem cellsS : Tryd.prog.cellsOf 9 = 1 := by kernel_rfl
theorem cellsK : Tryd.prog.cellsOf 3 = 1 := by kernel_rfl
theorem cell_lt {w : World} {b o : Nat} {v : Value} (h : w.cell? ⟨b, o, none⟩ = some v) : b < w.heap.size := by
  rcases Nat.lt_or_ge b w.heap.size with hx | hx
  · exact hx
  · simp [World.cell?, Array.getElem?_eq_none hx] at h
variable {H : Type} {enc : TypeId × Value → H} {w : World} {spare : Nat → Bool} {held : Bool}
instance : Inhabited Rn := ⟨rn0⟩
theorem fieldsU : ∃ f0 f1 f2 f3 : Field, Tryd.prog.underlying 32 = some (.struct #[f0, f1, f2, f3]) ∧ (f0.type, f0.offset) = (9, 0) ∧ (f1.type, f1.offset) = (3, 1) ∧ (f2.type, f2.offset) = (2, 2) ∧ (f3.type, f3.offset) = (9, 3) := ⟨_, _, _, _, Tryd.underlying32, rfl, rfl, rfl, rfl⟩
/-- One update that is read: its four cells. -/
theorem open_upd_cells {base : Nat} {fuel : Nat} {cs : List Value} {x : DataW H × List MemPlace} (h : DataW.trod enc Tryd.prog w base spare held fuel 32 cs = some x) :
    ∃ u : Up, cs = [.string u.1, .int .i64 u.2.1, .int .i64 u.2.2.1, .string u.2.2.2] ∧ In64 u.2.2.1 := by
  obtain ⟨f0, f1, f2, f3, hu, e0, e1, e2, e3⟩ := fieldsU
  simp only [Prod.mk.injEq] at e0 e1 e2 e3
  obtain ⟨xs, n, _, _, hlen, hxl, hg⟩ := DataW.trod_struct hu h
  rw [cellsU] at hlen
  match cs, hlen with
  | [c0, c1, c2, c3], _ =>
    match xs, hxl with
    | [y0, y1, y2, y3], _ =>
      have g0 := hg 0 f0 rfl
      have g1 := hg 1 f1 rfl
      have g2 := hg 2 f2 rfl
      have g3 := hg 3 f3 rfl
      rw [e0.1, e0.2, cellsS] at g0
      rw [e1.1, e1.2, cellsK] at g1
      rw [e2.1, e2.2, cellsI] at g2
      rw [e3.1, e3.2, cellsS] at g3
      obtain ⟨key, h0, _, _⟩ := DataW.trod_string Tryd.underlying9 (x := y0) g0
      obtain ⟨k, h1, _, _⟩ := DataW.trod_int Tryd.underlying3 (x := y1) g1
      obtain ⟨m, h2, _, wm⟩ := DataW.trod_int Tryd.underlying2 (x := y2) g2
      obtain ⟨s, h3, _, _⟩ := DataW.trod_string Tryd.underlying9 (x := y3) g3
      simp at h0 h1 h2 h3
      subst h0 h1 h2 h3
      exact ⟨(key, k, m, s), rfl, bd_i64 wm⟩
theorem open_ups {fuel : Nat} {a : Option Addr} {len cap : Nat} {x : DataW H × List MemPlace} (h : DataW.trod enc Tryd.prog w 0 spare held fuel 33 [.slice a len cap] = some x) :
    (∃ us, IsUs w a len us ∧ ∀ u ∈ us, In64 u.2.2.1) ∧ len ≤ cap ∧ (a = none → cap = 0) := by
  rcases Deep.open_slice Tryd.underlying33 h with ⟨hcs, _⟩ | ⟨y, l, c, m, n, D, Pl, hcs, _, hl, hc, hm, _, hi⟩
  · simp at hcs
    obtain ⟨rfl, rfl, rfl⟩ := hcs
    exact ⟨⟨[], ⟨rfl, fun h0 => absurd h0 (by omega)⟩, by simp⟩, Nat.le_refl _, fun _ => rfl⟩
  · simp at hcs
    obtain ⟨rfl, rfl, rfl⟩ := hcs
    refine ⟨?_, hl, fun e => by cases e⟩
    have hml : len ≤ m := by rw [hm]; split <;> omega
    rw [cellsU] at hi
    have hall : ∀ i, i < len → ∃ f : Up, (∀ j, j < 4 → w.cell? ((y.add (i * 4)).add j) = [Value.string f.1, .int .i64 f.2.1, .int .i64 f.2.2.1, .string f.2.2.2][j]?) ∧ In64 f.2.2.1 := by
      intro i hi'
      obtain ⟨cs', hc', ht⟩ := hi i (by omega)
      obtain ⟨f, hf, h1⟩ := open_upd_cells ht
      obtain ⟨_, _, hat⟩ := World.cells?_some hc'
      rw [hf] at hat
      exact ⟨f, hat, h1⟩
    obtain ⟨F, hF⟩ := Deep.choose_lt hall
    refine ⟨(List.range len).map F, ⟨by simp, ?_⟩, ?_⟩
    · intro h0
      obtain ⟨b, off, spot⟩ := y
      have hspot : spot = none := by
        have h00 := (hF 0 h0).1 0 (by omega)
        simpa [Addr.add] using World.cell?_spot (show World.cell? w _ = some (Value.string (F 0).1) from h00)
      subst hspot
      have hadd : ∀ i j : Nat, ((⟨b, off, none⟩ : Addr).add (i * 4)).add j = ⟨b, off + i * 4 + j, none⟩ := by
        intro i j
        rw [Go.WideShapes.add_plain, Go.WideShapes.add_plain]
      have hg : ∀ i, i < ((List.range len).map F).length → ((List.range len).map F).getD i up0 = F i ∧ i < len := by
        intro i hi'
        have : i < len := by simpa using hi'
        exact ⟨by simp [List.getD_eq_getElem?_getD, this], this⟩
      refine ⟨b, off, rfl, ⟨?_, ?_, ?_, ?_⟩⟩
      · intro i hi'
        obtain ⟨e, hl'⟩ := hg i hi'
        have := (hF i hl').1 0 (by omega)
        rw [hadd] at this
        rw [e]; exact this
      · intro i hi'
        obtain ⟨e, hl'⟩ := hg i hi'
        have := (hF i hl').1 1 (by omega)
        rw [hadd] at this
        rw [e]; exact this
      · intro i hi'
        obtain ⟨e, hl'⟩ := hg i hi'
        have := (hF i hl').1 2 (by omega)
        rw [hadd] at this
        rw [e]; exact this
      · intro i hi'
        obtain ⟨e, hl'⟩ := hg i hi'
        have := (hF i hl').1 3 (by omega)
        rw [hadd] at this
        rw [e]; exact this
    · intro u hu
      simp at hu
      obtain ⟨i, hi', rfl⟩ := hu
      exact (hF i hi').2
theorem cellsR : Tryd.prog.cellsOf 35 = 3 := by kernel_rfl
theorem cellsUs : Tryd.prog.cellsOf 33 = 1 := by kernel_rfl
theorem fieldsR : ∃ f0 f1 f2 : Field, Tryd.prog.underlying 35 = some (.struct #[f0, f1, f2]) ∧ (f0.type, f0.offset) = (3, 0) ∧ (f1.type, f1.offset) = (3, 1) ∧ (f2.type, f2.offset) = (33, 2) := ⟨_, _, _, Tryd.underlying35, rfl, rfl, rfl⟩
theorem open_us {fuel : Nat} {c : Value} {x : DataW H × List MemPlace} (h : DataW.trod enc Tryd.prog w 0 spare held fuel 33 [c] = some x) : ∃ a len cap us, c = .slice a len cap ∧ IsUs w a len us ∧ len ≤ cap ∧ (a = none → cap = 0) := by
  have hf : ∃ a len cap, c = .slice a len cap := by
    rcases Deep.open_slice Tryd.underlying33 h with ⟨hcs, _⟩ | ⟨y, l, c, m, n, D, Pl, hcs, _⟩
    · simp at hcs; exact ⟨_, _, _, hcs⟩
    · simp at hcs; exact ⟨_, _, _, hcs⟩
  obtain ⟨a, len, cap, rfl⟩ := hf
  obtain ⟨⟨us, hu, _⟩, hlc, hno⟩ := open_ups h
  exact ⟨a, len, cap, us, rfl, hu, hlc, hno⟩
/-- One round that is read: its three cells. -/
theorem open_rnd_cells {fuel : Nat} {cs : List Value} {x : DataW H × List MemPlace} (h : DataW.trod enc Tryd.prog w 0 spare held fuel 35 cs = some x) :
    ∃ r : Rn, cs = [.int .i64 r.o, .int .i64 r.n, .slice r.a r.len r.cap] ∧ Ru w r := by
  obtain ⟨f0, f1, f2, hu, e0, e1, e2⟩ := fieldsR
  simp only [Prod.mk.injEq] at e0 e1 e2
  obtain ⟨xs, n, _, _, hlen, hxl, hg⟩ := DataW.trod_struct hu h
  rw [cellsR] at hlen
  match cs, hlen with
  | [c0, c1, c2], _ =>
    match xs, hxl with
    | [y0, y1, y2], _ =>
      have g0 := hg 0 f0 rfl
      have g1 := hg 1 f1 rfl
      have g2 := hg 2 f2 rfl
      rw [e0.1, e0.2, cellsK] at g0
      rw [e1.1, e1.2, cellsK] at g1
      rw [e2.1, e2.2, cellsUs] at g2
      obtain ⟨o, h0, _, _⟩ := DataW.trod_int Tryd.underlying3 (x := y0) g0
      obtain ⟨k, h1, _, _⟩ := DataW.trod_int Tryd.underlying3 (x := y1) g1
      obtain ⟨a, len, cap, us, h2, hus, hlc, hno⟩ := open_us (c := c2) (x := y2) g2
      simp at h0 h1
      subst h0 h1 h2
      exact ⟨⟨o, k, a, len, cap, us⟩, rfl, hus, hlc, hno⟩
theorem trod_array4 {base : Nat} {t e : TypeId} {fuel : Nat} {c0 c1 c2 c3 : Value} {x : DataW H × List MemPlace} (ht : Tryd.prog.underlying t = some (.array 4 e)) (hce : Tryd.prog.cellsOf e = 1)
    (h : DataW.trod enc Tryd.prog w base spare held fuel t [c0, c1, c2, c3] = some x) :
    ∃ y0 y1 y2 y3 n, DataW.trod enc Tryd.prog w base spare held n e [c0] = some y0 ∧ DataW.trod enc Tryd.prog w base spare held n e [c1] = some y1 ∧ DataW.trod enc Tryd.prog w base spare held n e [c2] = some y2 ∧ DataW.trod enc Tryd.prog w base spare held n e [c3] = some y3 := by
  cases fuel with
  | zero => simp [DataW.trod] at h
  | succ n =>
    unfold DataW.trod at h
    rw [ht] at h
    have r4 : List.range 4 = [0, 1, 2, 3] := rfl
    simp [r4, hce] at h
    obtain ⟨_, h⟩ := h
    cases h0 : DataW.trod enc Tryd.prog w base spare held n e [c0] with
    | none => simp [h0] at h
    | some y0 =>
      cases h1 : DataW.trod enc Tryd.prog w base spare held n e [c1] with
      | none => simp [h0, h1] at h
      | some y1 =>
        cases h2 : DataW.trod enc Tryd.prog w base spare held n e [c2] with
        | none => simp [h0, h1, h2] at h
        | some y2 =>
          cases h3 : DataW.trod enc Tryd.prog w base spare held n e [c3] with
          | none => simp [h0, h1, h2, h3] at h
          | some y3 => exact ⟨y0, y1, y2, y3, n, h0, h1, h2, h3⟩
theorem array4 {xs : Array Value} (h : xs.size = 4) : ∃ a b c d, xs = #[a, b, c, d] := by
  obtain ⟨l⟩ := xs
  match l, h with
  | [a, b, c, d], _ => exact ⟨a, b, c, d, rfl⟩
theorem open_i4 {r : Reach} {b0 base : Nat} {v : Value} {d : DataW H} {p : List MemPlace} (hv : Value.okWide Tryd.prog w r b0 22 v) (h : DataW.Trod enc Tryd.prog w base spare held 22 v d p) : ∃ a b c d : Int, v = .agg #[.int .i64 a, .int .i64 b, .int .i64 c, .int .i64 d] := by
  obtain ⟨cs, rfl, hsz, _⟩ : ∃ cs, v = .agg cs ∧ cs.size = Tryd.prog.cellsOf 22 ∧ Row.okWide Tryd.prog w r b0 22 cs := by
    simpa [Value.okWide, Tryd.underlying22] using hv
  obtain ⟨c0, c1, c2, c3, rfl⟩ := array4 (hsz.trans cells51)
  obtain ⟨fuel, hf⟩ := h
  obtain ⟨y0, y1, y2, y3, m, h0, h1, h2, h3⟩ := trod_array4 Tryd.underlying22 cellsK hf
  obtain ⟨n0, e0, _, _⟩ := DataW.trod_int Tryd.underlying3 h0
  obtain ⟨n1, e1, _, _⟩ := DataW.trod_int Tryd.underlying3 h1
  obtain ⟨n2, e2, _, _⟩ := DataW.trod_int Tryd.underlying3 h2
  obtain ⟨n3, e3, _, _⟩ := DataW.trod_int Tryd.underlying3 h3
  simp at e0 e1 e2 e3
  subst e0 e1 e2 e3
  exact ⟨n0, n1, n2, n3, rfl⟩
theorem trod_array2 {base : Nat} {t e : TypeId} {fuel : Nat} {c0 c1 : Value} {x : DataW H × List MemPlace} (ht : Tryd.prog.underlying t = some (.array 2 e)) (hce : Tryd.prog.cellsOf e = 1)
    (h : DataW.trod enc Tryd.prog w base spare held fuel t [c0, c1] = some x) :
    ∃ y0 y1 n, DataW.trod enc Tryd.prog w base spare held n e [c0] = some y0 ∧ DataW.trod enc Tryd.prog w base spare held n e [c1] = some y1 := by
  cases fuel with
  | zero => simp [DataW.trod] at h
  | succ n =>
    unfold DataW.trod at h
    rw [ht] at h
    have r2 : List.range 2 = [0, 1] := rfl
    simp [r2, hce] at h
    obtain ⟨_, h⟩ := h
    cases h0 : DataW.trod enc Tryd.prog w base spare held n e [c0] with
    | none => simp [h0] at h
    | some y0 =>
      cases h1 : DataW.trod enc Tryd.prog w base spare held n e [c1] with
      | none => simp [h0, h1] at h
      | some y1 => exact ⟨y0, y1, n, h0, h1⟩
theorem cellsI2 : Tryd.prog.cellsOf 58 = 2 := by kernel_rfl
theorem open_i2 {r : Reach} {b0 base : Nat} {v : Value} {d : DataW H} {p : List MemPlace} (hv : Value.okWide Tryd.prog w r b0 58 v) (h : DataW.Trod enc Tryd.prog w base spare held 58 v d p) : ∃ a b : Int, v = .agg #[.int .i64 a, .int .i64 b] := by
  obtain ⟨cs, rfl, hsz, _⟩ : ∃ cs, v = .agg cs ∧ cs.size = Tryd.prog.cellsOf 58 ∧ Row.okWide Tryd.prog w r b0 58 cs := by
    simpa [Value.okWide, Tryd.underlying58] using hv
  obtain ⟨c0, c1, rfl⟩ := array2 (hsz.trans cellsI2)
  obtain ⟨fuel, hf⟩ := h
  obtain ⟨y0, y1, m, h0, h1⟩ := trod_array2 Tryd.underlying58 cellsK hf
  obtain ⟨n0, e0, _, _⟩ := DataW.trod_int Tryd.underlying3 h0
  obtain ⟨n1, e1, _, _⟩ := DataW.trod_int Tryd.underlying3 h1
  simp at e0 e1
  subst e0 e1
  exact ⟨n0, n1, rfl⟩
theorem open_rnd {r : Reach} {b0 : Nat} {v : Value} {d : DataW H} {p : List MemPlace} (hv : Value.okWide Tryd.prog w r b0 35 v) (h : DataW.Trod enc Tryd.prog w 0 spare held 35 v d p) :
    ∃ r : Rn, v = .agg #[.int .i64 r.o, .int .i64 r.n, .slice r.a r.len r.cap] ∧ Ru w r := by
  obtain ⟨c0, c1, c2, y0, y1, y2, m, rfl, _, _, h0, h1, h2⟩ := open_agg3 Tryd.underlying35 (by kernel_rfl) cellsR hv h
  obtain ⟨o, e0, _, _⟩ := DataW.trod_int Tryd.underlying3 h0
  obtain ⟨n, e1, _, _⟩ := DataW.trod_int Tryd.underlying3 h1
  obtain ⟨a, len, cap, us, e2, hu, hlc, hno⟩ := open_us h2
  simp at e0 e1
  subst e0 e1 e2
  exact ⟨⟨o, n, a, len, cap, us⟩, rfl, hu, hlc, hno⟩
theorem cellsA : Tryd.prog.cellsOf 37 = 8 := by kernel_rfl
theorem fieldsA : ∃ f0 f1 f2 : Field, Tryd.prog.underlying 37 = some (.struct #[f0, f1, f2]) ∧ (f0.type, f0.offset) = (3, 0) ∧ (f1.type, f1.offset) = (32, 1) ∧ (f2.type, f2.offset) = (35, 5) := ⟨_, _, _, Tryd.underlying37, rfl, rfl, rfl⟩
/-- One call that is read: its eight cells. -/
theorem open_act_cells {fuel : Nat} {cs : List Value} {x : DataW H × List MemPlace} (h : DataW.trod enc Tryd.prog w 0 spare held fuel 37 cs = some x) :
    ∃ u : Ac, cs = [.int .i64 u.1, .string u.2.1.1, .int .i64 u.2.1.2.1, .int .i64 u.2.1.2.2.1, .string u.2.1.2.2.2, .int .i64 u.2.2.o, .int .i64 u.2.2.n, .slice u.2.2.a u.2.2.len u.2.2.cap] ∧ Ru w u.2.2 := by
  obtain ⟨f0, f1, f2, hu, e0, e1, e2⟩ := fieldsA
  simp only [Prod.mk.injEq] at e0 e1 e2
  obtain ⟨xs, n, _, _, hlen, hxl, hg⟩ := DataW.trod_struct hu h
  rw [cellsA] at hlen
  match cs, hlen with
  | [c0, c1, c2, c3, c4, c5, c6, c7], _ =>
    match xs, hxl with
    | [y0, y1, y2], _ =>
      have g0 := hg 0 f0 rfl
      have g1 := hg 1 f1 rfl
      have g2 := hg 2 f2 rfl
      rw [e0.1, e0.2, cellsK] at g0
      rw [e1.1, e1.2, cellsU] at g1
      rw [e2.1, e2.2, cellsR] at g2
      obtain ⟨k, h0, _, _⟩ := DataW.trod_int Tryd.underlying3 (x := y0) g0
      obtain ⟨f, h1, _⟩ := open_upd_cells (x := y1) g1
      obtain ⟨r, h2, hr⟩ := open_rnd_cells (x := y2) g2
      simp at h0 h1 h2
      obtain ⟨rfl, rfl, rfl, rfl⟩ := h1
      obtain ⟨rfl, rfl, rfl⟩ := h2
      subst h0
      exact ⟨(k, f, r), rfl, hr⟩
theorem open_acts {fuel : Nat} {a : Option Addr} {len cap : Nat} {x : DataW H × List MemPlace} (h : DataW.trod enc Tryd.prog w 0 spare held fuel 23 [.slice a len cap] = some x) :
    ∃ l, IsAs w a len l := by
  rcases Deep.open_slice Tryd.underlying23 h with ⟨hcs, _⟩ | ⟨y, l, c, m, n, D, Pl, hcs, _, hl, hc, hm, _, hi⟩
  · simp at hcs
    obtain ⟨rfl, rfl, rfl⟩ := hcs
    exact ⟨[], ⟨rfl, fun h0 => absurd h0 (by omega), fun i hi => absurd hi (by omega)⟩⟩
  · simp at hcs
    obtain ⟨rfl, rfl, rfl⟩ := hcs
    have hml : len ≤ m := by rw [hm]; split <;> omega
    rw [cellsA] at hi
    have hall : ∀ i, i < len → ∃ f : Ac, (∀ j, j < 8 → w.cell? ((y.add (i * 8)).add j) = [Value.int .i64 f.1, .string f.2.1.1, .int .i64 f.2.1.2.1, .int .i64 f.2.1.2.2.1, .string f.2.1.2.2.2, .int .i64 f.2.2.o, .int .i64 f.2.2.n, .slice f.2.2.a f.2.2.len f.2.2.cap][j]?) ∧ Ru w f.2.2 := by
      intro i hi'
      obtain ⟨cs', hc', ht⟩ := hi i (by omega)
      obtain ⟨f, hf, hr⟩ := open_act_cells ht
      obtain ⟨_, _, hat⟩ := World.cells?_some hc'
      rw [hf] at hat
      exact ⟨f, hat, hr⟩
    obtain ⟨F, hF⟩ := Deep.choose_lt hall
    have hg : ∀ i, i < len → ((List.range len).map F).getD i ac0 = F i := by
      intro i hi'
      simp [List.getD_eq_getElem?_getD, hi']
    refine ⟨(List.range len).map F, ⟨by simp, ?_, fun i hi' => by rw [hg i hi']; exact (hF i hi').2⟩⟩
    intro h0
    obtain ⟨b, off, spot⟩ := y
    have hspot : spot = none := by
      have h00 := (hF 0 h0).1 0 (by omega)
      simpa [Addr.add] using World.cell?_spot (show World.cell? w _ = some (Value.int .i64 (F 0).1) from h00)
    subst hspot
    have hadd : ∀ i j : Nat, ((⟨b, off, none⟩ : Addr).add (i * 8)).add j = ⟨b, off + i * 8 + j, none⟩ := by
      intro i j
      rw [Go.WideShapes.add_plain, Go.WideShapes.add_plain]
    have h3 : ∀ i, i < len → A8 w b (off + i * 8) (F i) := by
      intro i hi'
      have q0 := (hF i hi').1 0 (by omega)
      have q1 := (hF i hi').1 1 (by omega)
      have q2 := (hF i hi').1 2 (by omega)
      have q3 := (hF i hi').1 3 (by omega)
      have q4 := (hF i hi').1 4 (by omega)
      have q5 := (hF i hi').1 5 (by omega)
      have q6 := (hF i hi').1 6 (by omega)
      have q7 := (hF i hi').1 7 (by omega)
      rw [hadd] at q0 q1 q2 q3 q4 q5 q6 q7
      exact ⟨q0, q1, q2, q3, q4, q5, q6, q7⟩
    refine ⟨b, off, rfl, cell_lt (h3 0 h0).k, fun i hi' => ?_⟩
    rw [hg i hi']
    exact h3 i hi'
end Go.Proofs.YtbbgibekplfacaaDoor
