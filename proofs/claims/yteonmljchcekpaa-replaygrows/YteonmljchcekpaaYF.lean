/- What rows of rounds that came in read as. -/
import Derived.Test.YteonmljchcekpaaSF
import Derived.Test.YteonmljchcekpaaY1
namespace Go.Proofs.Yteonmljchcekpaa
open Go Go.ChangeShapes Go.WideShapes Go.ChangeAt Go.RowKit Go.Joins
set_option maxRecDepth 20000
variable {H : Type} {enc : TypeId × Value → H} {w : World} {spare : Nat → Bool} {held : Bool}
instance : Inhabited Rn := ⟨rn0⟩
theorem cellsR : Try.prog.cellsOf 45 = 3 := by kernel_rfl
theorem cellsUs : Try.prog.cellsOf 22 = 1 := by kernel_rfl
theorem fieldsR : ∃ f0 f1 f2 : Field, Try.prog.underlying 45 = some (.struct #[f0, f1, f2]) ∧ (f0.type, f0.offset) = (3, 0) ∧ (f1.type, f1.offset) = (3, 1) ∧ (f2.type, f2.offset) = (22, 2) := ⟨_, _, _, Try.underlying45, rfl, rfl, rfl⟩
theorem open_us {fuel : Nat} {c : Value} {x : DataW H × List MemPlace} (h : DataW.trod enc Try.prog w 0 spare held fuel 22 [c] = some x) : ∃ a len cap us, c = .slice a len cap ∧ IsUs w a len us ∧ len ≤ cap ∧ (a = none → cap = 0) := by
  have hf : ∃ a len cap, c = .slice a len cap := by
    rcases Deep.open_slice Try.underlying22 h with ⟨hcs, _⟩ | ⟨y, l, c, m, n, D, Pl, hcs, _⟩
    · simp at hcs; exact ⟨_, _, _, hcs⟩
    · simp at hcs; exact ⟨_, _, _, hcs⟩
  obtain ⟨a, len, cap, rfl⟩ := hf
  obtain ⟨⟨us, hu, _⟩, hlc, hno⟩ := open_ups h
  exact ⟨a, len, cap, us, rfl, hu, hlc, hno⟩
/-- One round that is read: its three cells. -/
theorem open_rnd_cells {fuel : Nat} {cs : List Value} {x : DataW H × List MemPlace} (h : DataW.trod enc Try.prog w 0 spare held fuel 45 cs = some x) :
    ∃ r : Rn, cs = [.int .i64 r.o, .int .i64 r.n, .slice r.a r.len r.cap] ∧ Ru w r := by
  obtain ⟨f0, f1, f2, hu, e0, e1, e2⟩ := fieldsR
  simp only [Prod.mk.injEq] at e0 e1 e2
  obtain ⟨xs, n, _, _, hlen, hxl, hg⟩ := DataW.trod_struct hu h
  rw [cellsR] at hlen
  match cs, hlen with
  | [c0, c1, c2], _ =>
    match xs, hxl with
    | [y0, y1, y2], _ =>
      have g0 := hg 0 f0 rfl
      have g1 := hg 1 f1 rfl
      have g2 := hg 2 f2 rfl
      rw [e0.1, e0.2, cellsK] at g0
      rw [e1.1, e1.2, cellsK] at g1
      rw [e2.1, e2.2, cellsUs] at g2
      obtain ⟨o, h0, _, _⟩ := DataW.trod_int Try.underlying3 (x := y0) g0
      obtain ⟨k, h1, _, _⟩ := DataW.trod_int Try.underlying3 (x := y1) g1
      obtain ⟨a, len, cap, us, h2, hus, hlc, hno⟩ := open_us (c := c2) (x := y2) g2
      simp at h0 h1
      subst h0 h1 h2
      exact ⟨⟨o, k, a, len, cap, us⟩, rfl, hus, hlc, hno⟩
theorem open_rds {fuel : Nat} {a : Option Addr} {len cap : Nat} {x : DataW H × List MemPlace} (h : DataW.trod enc Try.prog w 0 spare held fuel 23 [.slice a len cap] = some x) :
    (∃ rs, IsRs w a len rs) ∧ len ≤ cap ∧ (a = none → cap = 0) := by
  rcases Deep.open_slice Try.underlying23 h with ⟨hcs, _⟩ | ⟨y, l, c, m, n, D, Pl, hcs, _, hl, hc, hm, _, hi⟩
  · simp at hcs
    obtain ⟨rfl, rfl, rfl⟩ := hcs
    exact ⟨⟨[], isRs_nil w⟩, Nat.le_refl _, fun _ => rfl⟩
  · simp at hcs
    obtain ⟨rfl, rfl, rfl⟩ := hcs
    refine ⟨?_, hl, fun e => by cases e⟩
    have hml : len ≤ m := by rw [hm]; split <;> omega
    rw [cellsR] at hi
    have hall : ∀ i, i < len → ∃ f : Rn, (∀ j, j < 3 → w.cell? ((y.add (i * 3)).add j) = [Value.int .i64 f.o, .int .i64 f.n, .slice f.a f.len f.cap][j]?) ∧ Ru w f := by
      intro i hi'
      obtain ⟨cs', hc', ht⟩ := hi i (by omega)
      obtain ⟨f, hf, h1⟩ := open_rnd_cells ht
      obtain ⟨_, _, hat⟩ := World.cells?_some hc'
      rw [hf] at hat
      exact ⟨f, hat, h1⟩
    obtain ⟨F, hF⟩ := Deep.choose_lt hall
    refine ⟨(List.range len).map F, ⟨by simp, ?_, ?_⟩⟩
    · intro h0
      obtain ⟨b, off, spot⟩ := y
      have hspot : spot = none := by
        have h00 := (hF 0 h0).1 0 (by omega)
        simpa [Addr.add] using World.cell?_spot (show World.cell? w _ = some (Value.int .i64 (F 0).o) from h00)
      subst hspot
      have hadd : ∀ i j : Nat, ((⟨b, off, none⟩ : Addr).add (i * 3)).add j = ⟨b, off + i * 3 + j, none⟩ := by
        intro i j
        rw [Go.WideShapes.add_plain, Go.WideShapes.add_plain]
      have hg : ∀ i, i < ((List.range len).map F).length → ((List.range len).map F).getD i rn0 = F i ∧ i < len := by
        intro i hi'
        have : i < len := by simpa using hi'
        exact ⟨by simp [List.getD_eq_getElem?_getD, this], this⟩
      refine ⟨b, off, rfl, three fun i hi' => ?_⟩
      obtain ⟨e, hl'⟩ := hg i hi'
      have t0 := (hF i hl').1 0 (by omega)
      have t1 := (hF i hl').1 1 (by omega)
      have t2 := (hF i hl').1 2 (by omega)
      rw [hadd] at t0 t1 t2
      rw [e]
      exact ⟨t0, t1, t2⟩
    · intro r hr
      simp at hr
      obtain ⟨i, hi', rfl⟩ := hr
      exact (hF i hi').2
theorem open_rnd {r : Reach} {b0 : Nat} {v : Value} {d : DataW H} {p : List MemPlace} (hv : Value.okWide Try.prog w r b0 45 v) (h : DataW.Trod enc Try.prog w 0 spare held 45 v d p) :
    ∃ r : Rn, v = .agg #[.int .i64 r.o, .int .i64 r.n, .slice r.a r.len r.cap] ∧ Ru w r := by
  obtain ⟨c0, c1, c2, y0, y1, y2, m, rfl, _, _, h0, h1, h2⟩ := open_agg3 Try.underlying45 (by kernel_rfl) cellsR hv h
  obtain ⟨o, e0, _, _⟩ := DataW.trod_int Try.underlying3 h0
  obtain ⟨n, e1, _, _⟩ := DataW.trod_int Try.underlying3 h1
  obtain ⟨a, len, cap, us, e2, hu, hlc, hno⟩ := open_us h2
  simp at e0 e1
  subst e0 e1 e2
  exact ⟨⟨o, n, a, len, cap, us⟩, rfl, hu, hlc, hno⟩
end Go.Proofs.Yteonmljchcekpaa
