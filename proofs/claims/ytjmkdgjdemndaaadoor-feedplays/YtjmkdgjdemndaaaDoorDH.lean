/- What calls that came in read as. -/
import Derived.Test.YtjmkdgjdemndaaaDoorDF
import Derived.Test.YtjmkdgjdemndaaaDoorD6
namespace Go.Proofs.YtjmkdgjdemndaaaDoor
open Go Go.ChangeShapes Go.WideShapes Go.ChangeAt Go.RowKit Go.Joins
set_option maxRecDepth 20000
variable {H : Type} {enc : TypeId × Value → H} {w : World} {spare : Nat → Bool} {held : Bool}
theorem cellsF : Tryd.prog.cellsOf 40 = 4 := by kernel_rfl
theorem cellsA : Tryd.prog.cellsOf 45 = 8 := by kernel_rfl
theorem fieldsF : ∃ f0 f1 f2 f3 : Field, Tryd.prog.underlying 40 = some (.struct #[f0, f1, f2, f3]) ∧ (f0.type, f0.offset) = (3, 0) ∧ (f1.type, f1.offset) = (3, 1) ∧ (f2.type, f2.offset) = (3, 2) ∧ (f3.type, f3.offset) = (9, 3) := ⟨_, _, _, _, Tryd.underlying40, rfl, rfl, rfl, rfl⟩
theorem open_frm_cells {base : Nat} {fuel : Nat} {cs : List Value} {x : DataW H × List MemPlace} (h : DataW.trod enc Tryd.prog w base spare held fuel 40 cs = some x) :
    ∃ u : K.Fra, cs = [.int .i64 u.1, .int .i64 u.2.1, .int .i64 u.2.2.1, .string u.2.2.2] := by
  obtain ⟨f0, f1, f2, f3, hu, e0, e1, e2, e3⟩ := fieldsF
  simp only [Prod.mk.injEq] at e0 e1 e2 e3
  obtain ⟨xs, n, _, _, hlen, hxl, hg⟩ := DataW.trod_struct hu h
  rw [cellsF] at hlen
  match cs, hlen with
  | [c0, c1, c2, c3], _ =>
    match xs, hxl with
    | [y0, y1, y2, y3], _ =>
      have g0 := hg 0 f0 rfl
      have g1 := hg 1 f1 rfl
      have g2 := hg 2 f2 rfl
      have g3 := hg 3 f3 rfl
      rw [e0.1, e0.2, cellsK] at g0
      rw [e1.1, e1.2, cellsK] at g1
      rw [e2.1, e2.2, cellsK] at g2
      rw [e3.1, e3.2, cellsS] at g3
      obtain ⟨k, h0, _, _⟩ := DataW.trod_int Tryd.underlying3 (x := y0) g0
      obtain ⟨m, h1, _, _⟩ := DataW.trod_int Tryd.underlying3 (x := y1) g1
      obtain ⟨n, h2, _, _⟩ := DataW.trod_int Tryd.underlying3 (x := y2) g2
      obtain ⟨s, h3, _, _⟩ := DataW.trod_string Tryd.underlying9 (x := y3) g3
      simp at h0 h1 h2 h3
      subst h0 h1 h2 h3
      exact ⟨(k, m, n, s), rfl⟩
theorem fieldsA : ∃ f0 f1 f2 : Field, Tryd.prog.underlying 45 = some (.struct #[f0, f1, f2]) ∧ (f0.type, f0.offset) = (3, 0) ∧ (f1.type, f1.offset) = (40, 1) ∧ (f2.type, f2.offset) = (43, 5) := ⟨_, _, _, Tryd.underlying45, rfl, rfl, rfl⟩
/-- One call that is read: its eight cells. -/
theorem open_act_cells {fuel : Nat} {cs : List Value} {x : DataW H × List MemPlace} (h : DataW.trod enc Tryd.prog w 0 spare held fuel 45 cs = some x) :
    ∃ u : Ac, cs = [.int .i64 u.1, .int .i64 u.2.1.1, .int .i64 u.2.1.2.1, .int .i64 u.2.1.2.2.1, .string u.2.1.2.2.2, .int .i64 u.2.2.o, .int .i64 u.2.2.n, .slice u.2.2.a u.2.2.len u.2.2.cap] ∧ Ru w u.2.2 := by
  obtain ⟨f0, f1, f2, hu, e0, e1, e2⟩ := fieldsA
  simp only [Prod.mk.injEq] at e0 e1 e2
  obtain ⟨xs, n, _, _, hlen, hxl, hg⟩ := DataW.trod_struct hu h
  rw [cellsA] at hlen
  match cs, hlen with
  | [c0, c1, c2, c3, c4, c5, c6, c7], _ =>
    match xs, hxl with
    | [y0, y1, y2], _ =>
      have g0 := hg 0 f0 rfl
      have g1 := hg 1 f1 rfl
      have g2 := hg 2 f2 rfl
      rw [e0.1, e0.2, cellsK] at g0
      rw [e1.1, e1.2, cellsF] at g1
      rw [e2.1, e2.2, cellsR] at g2
      obtain ⟨k, h0, _, _⟩ := DataW.trod_int Tryd.underlying3 (x := y0) g0
      obtain ⟨f, h1⟩ := open_frm_cells (x := y1) g1
      obtain ⟨r, h2, hr⟩ := open_rnd_cells (x := y2) g2
      simp at h0 h1 h2
      obtain ⟨rfl, rfl, rfl, rfl⟩ := h1
      obtain ⟨rfl, rfl, rfl⟩ := h2
      subst h0
      exact ⟨(k, f, r), rfl, hr⟩
theorem open_acts {fuel : Nat} {a : Option Addr} {len cap : Nat} {x : DataW H × List MemPlace} (h : DataW.trod enc Tryd.prog w 0 spare held fuel 23 [.slice a len cap] = some x) :
    ∃ l, IsAs w a len l := by
  rcases Deep.open_slice Tryd.underlying23 h with ⟨hcs, _⟩ | ⟨y, l, c, m, n, D, Pl, hcs, _, hl, hc, hm, _, hi⟩
  · simp at hcs
    obtain ⟨rfl, rfl, rfl⟩ := hcs
    exact ⟨[], ⟨rfl, fun h0 => absurd h0 (by omega), fun i hi => absurd hi (by omega)⟩⟩
  · simp at hcs
    obtain ⟨rfl, rfl, rfl⟩ := hcs
    have hml : len ≤ m := by rw [hm]; split <;> omega
    rw [cellsA] at hi
    have hall : ∀ i, i < len → ∃ f : Ac, (∀ j, j < 8 → w.cell? ((y.add (i * 8)).add j) = [Value.int .i64 f.1, .int .i64 f.2.1.1, .int .i64 f.2.1.2.1, .int .i64 f.2.1.2.2.1, .string f.2.1.2.2.2, .int .i64 f.2.2.o, .int .i64 f.2.2.n, .slice f.2.2.a f.2.2.len f.2.2.cap][j]?) ∧ Ru w f.2.2 := by
      intro i hi'
      obtain ⟨cs', hc', ht⟩ := hi i (by omega)
      obtain ⟨f, hf, hr⟩ := open_act_cells ht
      obtain ⟨_, _, hat⟩ := World.cells?_some hc'
      rw [hf] at hat
      exact ⟨f, hat, hr⟩
    obtain ⟨F, hF⟩ := Deep.choose_lt hall
    have hg : ∀ i, i < len → ((List.range len).map F).getD i ac0 = F i := by
      intro i hi'
      simp [List.getD_eq_getElem?_getD, hi']
    refine ⟨(List.range len).map F, ⟨by simp, ?_, fun i hi' => by rw [hg i hi']; exact (hF i hi').2⟩⟩
    intro h0
    obtain ⟨b, off, spot⟩ := y
    have hspot : spot = none := by
      have h00 := (hF 0 h0).1 0 (by omega)
      simpa [Addr.add] using World.cell?_spot (show World.cell? w _ = some (Value.int .i64 (F 0).1) from h00)
    subst hspot
    have hadd : ∀ i j : Nat, ((⟨b, off, none⟩ : Addr).add (i * 8)).add j = ⟨b, off + i * 8 + j, none⟩ := by
      intro i j
      rw [Go.WideShapes.add_plain, Go.WideShapes.add_plain]
    have h3 : ∀ i, i < len → A8 w b (off + i * 8) (F i) := by
      intro i hi'
      have q0 := (hF i hi').1 0 (by omega)
      have q1 := (hF i hi').1 1 (by omega)
      have q2 := (hF i hi').1 2 (by omega)
      have q3 := (hF i hi').1 3 (by omega)
      have q4 := (hF i hi').1 4 (by omega)
      have q5 := (hF i hi').1 5 (by omega)
      have q6 := (hF i hi').1 6 (by omega)
      have q7 := (hF i hi').1 7 (by omega)
      rw [hadd] at q0 q1 q2 q3 q4 q5 q6 q7
      exact ⟨q0, q1, q2, q3, q4, q5, q6, q7⟩
    refine ⟨b, off, rfl, cell_lt (h3 0 h0).k, fun i hi' => ?_⟩
    rw [hg i hi']
    exact h3 i hi'
end Go.Proofs.YtjmkdgjdemndaaaDoor
