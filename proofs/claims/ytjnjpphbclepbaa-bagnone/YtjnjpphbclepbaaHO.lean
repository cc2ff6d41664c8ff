/- What a packet, calls and numbers that came in read as. -/
import Derived.Test.YtjnjpphbclepbaaRows
import Derived.Test.YtjnjpphbclepbaaHF
import Derived.WalkKit
import Derived.ProofKit
import Derived.OpenShut
import Derived.Deep.Slices
import Derived.Laws.IdiomArrays
import Derived.Lib.SmallJoins
namespace Go.Proofs.Ytjnjpphbclepbaa
open Go Go.ChangeShapes Go.WideShapes Go.ChangeAt Go.RowKit Go.Joins
set_option maxRecDepth 20000
theorem own : ownKnob Try.prog.godebug = none := by kernel_rfl
theorem laidOut : laidOutB Try.prog = true := by kernel_rfl
theorem cellsP : Try.prog.cellsOf 39 = 3 := by kernel_rfl
theorem cellsA : Try.prog.cellsOf 34 = 5 := by kernel_rfl
theorem cellsS : Try.prog.cellsOf 9 = 1 := by kernel_rfl
theorem cellsK : Try.prog.cellsOf 3 = 1 := by kernel_rfl
theorem cellsM : Try.prog.cellsOf 32 = 1 := by kernel_rfl
theorem cellsPs : Try.prog.cellsOf 26 = 1 := by kernel_rfl
theorem cell_lt {w : World} {b o : Nat} {v : Value} (h : w.cell? ⟨b, o, none⟩ = some v) : b < w.heap.size := by
  rcases Nat.lt_or_ge b w.heap.size with hx | hx
  · exact hx
  · simp [World.cell?, Array.getElem?_eq_none hx] at h
theorem i64_bd {m : Int} (h : (Lit.int .i64 m).wf = true) : -9223372036854775808 ≤ m ∧ m ≤ 9223372036854775807 := by
  have := bounds_i64 h; omega
theorem u32_bd {m : Int} (h : (Lit.int .u32 m).wf = true) : ∃ n : Nat, m = (n : Int) ∧ n < 4294967296 := by
  simp [Lit.wf] at h
  have h1 : IntKind.u32.min = 0 := by decide
  have h2 : IntKind.u32.max = 4294967295 := by decide
  rw [h1, h2] at h
  exact ⟨m.toNat, by omega, by omega⟩
variable {H : Type} {enc : TypeId × Value → H} {w : World} {spare : Nat → Bool} {held : Bool}
instance : Inhabited Ac := ⟨ac0⟩
theorem fieldsP : ∃ f0 f1 f2 : Field, Try.prog.underlying 39 = some (.struct #[f0, f1, f2]) ∧ (f0.type, f0.offset) = (3, 0) ∧ (f1.type, f1.offset) = (3, 1) ∧ (f2.type, f2.offset) = (9, 2) := ⟨_, _, _, Try.underlying39, rfl, rfl, rfl⟩
/-- One packet that is read: its three cells. -/
theorem open_pkt_cells {fuel : Nat} {cs : List Value} {x : DataW H × List MemPlace} (h : DataW.trod enc Try.prog w 0 spare held fuel 39 cs = some x) :
    ∃ u : Pkt, cs = [.int .i64 u.1, .int .i64 u.2.1, .string u.2.2] ∧ okP u := by
  obtain ⟨f0, f1, f2, hu, e0, e1, e2⟩ := fieldsP
  simp only [Prod.mk.injEq] at e0 e1 e2
  obtain ⟨xs, n, _, _, hlen, hxl, hg⟩ := DataW.trod_struct hu h
  rw [cellsP] at hlen
  match cs, hlen with
  | [c0, c1, c2], _ =>
    match xs, hxl with
    | [y0, y1, y2], _ =>
      have g0 := hg 0 f0 rfl
      have g1 := hg 1 f1 rfl
      have g2 := hg 2 f2 rfl
      rw [e0.1, e0.2, cellsK] at g0
      rw [e1.1, e1.2, cellsK] at g1
      rw [e2.1, e2.2, cellsS] at g2
      obtain ⟨k, h0, _, wk⟩ := DataW.trod_int Try.underlying3 (x := y0) g0
      obtain ⟨m, h1, _, wm⟩ := DataW.trod_int Try.underlying3 (x := y1) g1
      obtain ⟨s, h2, _, _⟩ := DataW.trod_string Try.underlying9 (x := y2) g2
      simp at h0 h1 h2
      subst h0 h1 h2
      exact ⟨(k, m, s), rfl, wk, wm⟩
theorem open_pkt {r : Reach} {b0 : Nat} {v : Value} {d : DataW H} {p : List MemPlace} (hv : Value.okWide Try.prog w r b0 39 v) (h : DataW.Trod enc Try.prog w 0 spare held 39 v d p) : ∃ x : Pkt, v = pv x := by
  obtain ⟨c0, c1, c2, y0, y1, y2, m, rfl, _, _, h0, h1, h2⟩ := open_agg3 Try.underlying39 (by kernel_rfl) cellsP hv h
  obtain ⟨o, e0, _, _⟩ := DataW.trod_int Try.underlying3 h0
  obtain ⟨n, e1, _, _⟩ := DataW.trod_int Try.underlying3 h1
  obtain ⟨s, e2, _, _⟩ := DataW.trod_string Try.underlying9 h2
  simp at e0 e1 e2
  subst e0 e1 e2
  exact ⟨(o, n, s), rfl⟩
theorem open_pkts {fuel : Nat} {a : Option Addr} {len cap : Nat} {x : DataW H × List MemPlace} (h : DataW.trod enc Try.prog w 0 spare held fuel 26 [.slice a len cap] = some x) :
    (∃ l, PsAt w a len l ∧ ∀ p ∈ l, okP p) ∧ len ≤ cap ∧ (a = none → cap = 0) := by
  rcases Deep.open_slice Try.underlying26 h with ⟨hcs, _⟩ | ⟨y, l, c, m, n, D, Pl, hcs, _, hl, hc, hm, _, hi⟩
  · simp at hcs
    obtain ⟨rfl, rfl, rfl⟩ := hcs
    exact ⟨⟨[], ⟨rfl, fun h0 => absurd h0 (by omega)⟩, fun p hp => by cases hp⟩, Nat.le_refl _, fun _ => rfl⟩
  · simp at hcs
    obtain ⟨rfl, rfl, rfl⟩ := hcs
    refine ⟨?_, hl, fun e => by cases e⟩
    have hml : len ≤ m := by rw [hm]; split <;> omega
    rw [cellsP] at hi
    have hall : ∀ i, i < len → ∃ f : Pkt, (∀ j, j < 3 → w.cell? ((y.add (i * 3)).add j) = [Value.int .i64 f.1, .int .i64 f.2.1, .string f.2.2][j]?) ∧ okP f := by
      intro i hi'
      obtain ⟨cs', hc', ht⟩ := hi i (by omega)
      obtain ⟨f, hf, hw⟩ := open_pkt_cells ht
      obtain ⟨_, _, hat⟩ := World.cells?_some hc'
      rw [hf] at hat
      exact ⟨f, hat, hw⟩
    obtain ⟨F, hF⟩ := Deep.choose_lt hall
    refine ⟨(List.range len).map F, ⟨by simp, ?_⟩, fun p hp => by
      simp at hp
      obtain ⟨i, hi', rfl⟩ := hp
      exact (hF i hi').2⟩
    intro h0
    obtain ⟨b, off, spot⟩ := y
    have hspot : spot = none := by
      have h00 := (hF 0 h0).1 0 (by omega)
      simpa [Addr.add] using World.cell?_spot (show World.cell? w _ = some (Value.int .i64 (F 0).1) from h00)
    subst hspot
    have hadd : ∀ i j : Nat, ((⟨b, off, none⟩ : Addr).add (i * 3)).add j = ⟨b, off + i * 3 + j, none⟩ := by
      intro i j
      rw [Go.WideShapes.add_plain, Go.WideShapes.add_plain]
    have hg : ∀ i, i < len → ((List.range len).map F).getD i pk0 = F i := by
      intro i hi'
      simp [List.getD_eq_getElem?_getD, hi']
    have h3 : ∀ i, i < len → P4 w b (off + i * 3) (F i) := by
      intro i hi'
      have q0 := (hF i hi').1 0 (by omega)
      have q1 := (hF i hi').1 1 (by omega)
      have q2 := (hF i hi').1 2 (by omega)
      rw [hadd] at q0 q1 q2
      exact ⟨q0, q1, q2⟩
    refine ⟨b, off, rfl, cell_lt (h3 0 h0).fr, fun i hi' => ?_⟩
    rw [hg i hi']
    exact h3 i hi'
theorem open_ps {fuel : Nat} {c : Value} {x : DataW H × List MemPlace} (h : DataW.trod enc Try.prog w 0 spare held fuel 26 [c] = some x) : ∃ a len cap l, c = .slice a len cap ∧ (PsAt w a len l ∧ ∀ p ∈ l, okP p) ∧ len ≤ cap ∧ (a = none → cap = 0) := by
  have hf : ∃ a len cap, c = .slice a len cap := by
    rcases Deep.open_slice Try.underlying26 h with ⟨hcs, _⟩ | ⟨y, l, c, m, n, D, Pl, hcs, _⟩
    · simp at hcs; exact ⟨_, _, _, hcs⟩
    · simp at hcs; exact ⟨_, _, _, hcs⟩
  obtain ⟨a, len, cap, rfl⟩ := hf
  obtain ⟨⟨l, hu⟩, hlc, hno⟩ := open_pkts h
  exact ⟨a, len, cap, l, rfl, hu, hlc, hno⟩
theorem fieldsA : ∃ f0 f1 f2 f3 f4 : Field, Try.prog.underlying 34 = some (.struct #[f0, f1, f2, f3, f4]) ∧ (f0.type, f0.offset) = (3, 0) ∧ (f1.type, f1.offset) = (3, 1) ∧ (f2.type, f2.offset) = (3, 2) ∧ (f3.type, f3.offset) = (32, 3) ∧ (f4.type, f4.offset) = (26, 4) := ⟨_, _, _, _, _, Try.underlying34, rfl, rfl, rfl, rfl, rfl⟩
/-- One call that is read: its five cells. -/
theorem open_act_cells {fuel : Nat} {cs : List Value} {x : DataW H × List MemPlace} (h : DataW.trod enc Try.prog w 0 spare held fuel 34 cs = some x) :
    ∃ u : Ac, cs = [.int .i64 u.k, .int .i64 u.n, .int .i64 u.bit, .int .u32 (u.m : Int), .slice u.a u.len u.cap] ∧ Rp w u := by
  obtain ⟨f0, f1, f2, f3, f4, hu, e0, e1, e2, e3, e4⟩ := fieldsA
  simp only [Prod.mk.injEq] at e0 e1 e2 e3 e4
  obtain ⟨xs, n, _, _, hlen, hxl, hg⟩ := DataW.trod_struct hu h
  rw [cellsA] at hlen
  match cs, hlen with
  | [c0, c1, c2, c3, c4], _ =>
    match xs, hxl with
    | [y0, y1, y2, y3, y4], _ =>
      have g0 := hg 0 f0 rfl
      have g1 := hg 1 f1 rfl
      have g2 := hg 2 f2 rfl
      have g3 := hg 3 f3 rfl
      have g4 := hg 4 f4 rfl
      rw [e0.1, e0.2, cellsK] at g0
      rw [e1.1, e1.2, cellsK] at g1
      rw [e2.1, e2.2, cellsK] at g2
      rw [e3.1, e3.2, cellsM] at g3
      rw [e4.1, e4.2, cellsPs] at g4
      obtain ⟨k, h0, _, _⟩ := DataW.trod_int Try.underlying3 (x := y0) g0
      obtain ⟨m, h1, _, _⟩ := DataW.trod_int Try.underlying3 (x := y1) g1
      obtain ⟨bt, h2, _, wb⟩ := DataW.trod_int Try.underlying3 (x := y2) g2
      obtain ⟨mk, h3, _, wm⟩ := DataW.trod_int Try.underlying32 (x := y3) g3
      obtain ⟨a, len, cap, l, h4, hp, hlc, hno⟩ := open_ps (c := c4) (x := y4) g4
      obtain ⟨mn, rfl, hmn⟩ := u32_bd wm
      obtain ⟨b1, b2⟩ := i64_bd wb
      simp at h0 h1 h2 h3
      subst h0 h1 h2 h3 h4
      exact ⟨⟨k, m, bt, mn, a, len, cap, l⟩, rfl, hp.1, hlc, hno, b1, b2, hmn, hp.2⟩
theorem open_acts {fuel : Nat} {a : Option Addr} {len cap : Nat} {x : DataW H × List MemPlace} (h : DataW.trod enc Try.prog w 0 spare held fuel 22 [.slice a len cap] = some x) :
    ∃ l, IsAs w a len l := by
  rcases Deep.open_slice Try.underlying22 h with ⟨hcs, _⟩ | ⟨y, l, c, m, n, D, Pl, hcs, _, hl, hc, hm, _, hi⟩
  · simp at hcs
    obtain ⟨rfl, rfl, rfl⟩ := hcs
    exact ⟨[], ⟨rfl, fun h0 => absurd h0 (by omega), fun i hi => absurd hi (by omega)⟩⟩
  · simp at hcs
    obtain ⟨rfl, rfl, rfl⟩ := hcs
    have hml : len ≤ m := by rw [hm]; split <;> omega
    rw [cellsA] at hi
    have hall : ∀ i, i < len → ∃ f : Ac, (∀ j, j < 5 → w.cell? ((y.add (i * 5)).add j) = [Value.int .i64 f.k, .int .i64 f.n, .int .i64 f.bit, .int .u32 (f.m : Int), .slice f.a f.len f.cap][j]?) ∧ Rp w f := by
      intro i hi'
      obtain ⟨cs', hc', ht⟩ := hi i (by omega)
      obtain ⟨f, hf, hr⟩ := open_act_cells ht
      obtain ⟨_, _, hat⟩ := World.cells?_some hc'
      rw [hf] at hat
      exact ⟨f, hat, hr⟩
    obtain ⟨F, hF⟩ := Deep.choose_lt hall
    have hg : ∀ i, i < len → ((List.range len).map F).getD i ac0 = F i := by
      intro i hi'
      simp [List.getD_eq_getElem?_getD, hi']
    refine ⟨(List.range len).map F, ⟨by simp, ?_, fun i hi' => by rw [hg i hi']; exact (hF i hi').2⟩⟩
    intro h0
    obtain ⟨b, off, spot⟩ := y
    have hspot : spot = none := by
      have h00 := (hF 0 h0).1 0 (by omega)
      simpa [Addr.add] using World.cell?_spot (show World.cell? w _ = some (Value.int .i64 (F 0).k) from h00)
    subst hspot
    have hadd : ∀ i j : Nat, ((⟨b, off, none⟩ : Addr).add (i * 5)).add j = ⟨b, off + i * 5 + j, none⟩ := by
      intro i j
      rw [Go.WideShapes.add_plain, Go.WideShapes.add_plain]
    have h3 : ∀ i, i < len → A5 w b (off + i * 5) (F i) := by
      intro i hi'
      have q0 := (hF i hi').1 0 (by omega)
      have q1 := (hF i hi').1 1 (by omega)
      have q2 := (hF i hi').1 2 (by omega)
      have q3 := (hF i hi').1 3 (by omega)
      have q4 := (hF i hi').1 4 (by omega)
      rw [hadd] at q0 q1 q2 q3 q4
      exact ⟨q0, q1, q2, q3, q4⟩
    refine ⟨b, off, rfl, cell_lt (h3 0 h0).k, fun i hi' => ?_⟩
    rw [hg i hi']
    exact h3 i hi'
end Go.Proofs.Ytjnjpphbclepbaa
