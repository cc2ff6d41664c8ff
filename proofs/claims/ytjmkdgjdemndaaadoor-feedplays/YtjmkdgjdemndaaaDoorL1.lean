import Derived.Test.YtjmkdgjdemndaaaDoorProg
import Derived.WalkKit
import Derived.Lib.Hide
import Derived.Handy
import Derived.Lib.SmallJoins
import Derived.Laws.StructEq
import Derived.Laws.NewDeep
import Derived.Laws.OwnMore
import Derived.Maps.AppendAt
import Derived.Lib.SliceRun
import Derived.Deep.RegionLawGrows
/- Plain: pieces; rows of pieces that grow and are cut; rows of texts. -/
namespace Go.Proofs.YtjmkdgjdemndaaaDoor.K
open Go Go.RowKit
set_option maxRecDepth 20000
theorem Below.next {w w1 w2 : World} (h : Below w.heap.size w w1) (hb : Below w1.heap.size w1 w2) : Below w.heap.size w w2 := h.trans (hb.mono h.size)
theorem cell_at {w : World} {b : Nat} {xs : Array Value} {t : TypeId} (h : w.heap[b]? = some (.cells xs t (0, 0))) (i : Nat) (v : Value) (hv : xs[i]? = some v) : w.cell? ⟨b, i, none⟩ = some v := by simp [World.cell?, h, hv]
theorem new_at {W : World} {o : Obj} {n : Nat} (h : W.heap.size = n) : (W.alloc o).heap[n]? = some o := h ▸ heap_alloc_new W o
theorem kept_at {W w1 : World} {x : Obj} {n : Nat} (h : W.heap[n]? = some x) (hb : Below W.heap.size W w1) : w1.heap[n]? = some x := (hb.block n (Array.getElem?_eq_some_iff.1 h).1).trans h
theorem grownOf {a b : World} (row : Option Nat) (h : Below a.heap.size a b) : a.grownBy b row := ⟨h.os, h.tape, h.output, h.size, fun j hj _ => h.block j hj⟩
theorem belowOf {a b : World} (h : a.grownBy b none) : Below a.heap.size a b := ⟨h.os, h.tape, h.output, h.size, fun j hj => h.block j hj (by simp)⟩
def emp : ByteArray := ⟨#[]⟩
/-- The cells of pieces, one behind the other, the first one's number behind k. -/
def flP : Nat → List ByteArray → List Value
  | _, [] => []
  | k, d :: ds => .int .i64 ((k + 1 : Nat) : Int) :: .string d :: flP (k + 1) ds
theorem flP_len : ∀ (k : Nat) (ds : List ByteArray), (flP k ds).length = ds.length * 2
  | _, [] => rfl
  | k, d :: ds => by simp only [flP, List.length_cons, flP_len (k + 1) ds]; omega
theorem flP_app : ∀ (k : Nat) (ds es : List ByteArray), flP k (ds ++ es) = flP k ds ++ flP (k + ds.length) es
  | _, [], _ => rfl
  | k, d :: ds, es => by
    simp only [List.cons_append, flP, flP_app (k + 1) ds es, List.length_cons]
    rw [show k + 1 + ds.length = k + (ds.length + 1) by omega]
theorem flP_get0 : ∀ (k : Nat) (ds : List ByteArray) (i : Nat), i < ds.length → (flP k ds)[i * 2]? = some (.int .i64 ((k + i + 1 : Nat) : Int))
  | _, [], i, h => absurd h (by simp)
  | k, d :: ds, 0, _ => rfl
  | k, d :: ds, i + 1, h => by
    have := flP_get0 (k + 1) ds i (by simpa using h)
    rw [show (i + 1) * 2 = i * 2 + 1 + 1 by omega]
    simp only [flP, List.getElem?_cons_succ, this]
    rw [show k + 1 + i + 1 = k + (i + 1) + 1 by omega]
theorem flP_get1 : ∀ (k : Nat) (ds : List ByteArray) (i : Nat), i < ds.length → (flP k ds)[i * 2 + 1]? = some (.string (ds.getD i emp))
  | _, [], i, h => absurd h (by simp)
  | k, d :: ds, 0, _ => rfl
  | k, d :: ds, i + 1, h => by
    have := flP_get1 (k + 1) ds i (by simpa using h)
    rw [show (i + 1) * 2 + 1 = i * 2 + 1 + 1 + 1 by omega]
    simp only [flP, List.getElem?_cons_succ, this]
    simp
theorem flP_drop : ∀ (m k : Nat) (ds : List ByteArray), (flP k ds).drop (m * 2) = flP (k + m) (ds.drop m)
  | 0, k, ds => by simp
  | m + 1, k, [] => by simp [flP]
  | m + 1, k, d :: ds => by
    rw [show (m + 1) * 2 = m * 2 + 1 + 1 by omega]
    simp only [flP, List.drop_succ_cons, flP_drop m (k + 1) ds]
    rw [show k + 1 + m = k + (m + 1) by omega]
theorem flP_one : ∀ (k : Nat) (ds : List ByteArray), ∀ u ∈ flP k ds, u.oneCell' = true
  | _, [] => fun u hu => by cases hu
  | k, d :: ds => fun u hu => by
    simp only [flP, List.mem_cons] at hu
    rcases hu with rfl | rfl | hu
    · rfl
    · rfl
    · exact flP_one (k + 1) ds u hu
/-- A row of pieces of the call's own, as append makes it. -/
def RowP (B : Nat) (w : World) (v : Value) (k : Nat) (ds : List ByteArray) : Prop := w.ownsRow B 96 2 v ds.length (flP k ds)
/-- A row of pieces of a sender's own: as append makes it, or cut from the front. -/
def PR (B : Nat) (w : World) (v : Value) (k : Nat) (ds : List ByteArray) : Prop :=
  (v = .slice none 0 0 ∧ ds = []) ∨ ∃ g off cap cur, v = .slice (some ⟨g, off, none⟩) ds.length cap ∧ B ≤ g ∧ w.heap[g]? = some (.cells cur 96 (0, 0)) ∧ ds.length ≤ cap ∧ off + ds.length * 2 ≤ cur.size ∧ (∀ j, j < ds.length * 2 → cur[off + j]? = (flP k ds)[j]?) ∧ (cap = ds.length ∨ (off = 0 ∧ cur.size = cap * 2 ∧ cap ≤ maxLen))
theorem RowP.pr {B w v k ds} (h : RowP B w v k ds) : PR B w v k ds := by
  rcases h.2 with ⟨rfl, h0⟩ | ⟨g, cap, cur, rfl, hb, hg, hc, hm, hs, ht⟩
  · exact .inl ⟨rfl, List.eq_nil_of_length_eq_zero h0⟩
  · refine .inr ⟨g, 0, cap, cur, rfl, hb, hg, hc, by omega, fun j hj => ?_, .inr ⟨rfl, hs, hm⟩⟩
    rw [← ht, List.getElem?_take, if_pos hj, Nat.zero_add]
    simp
theorem PR.lt {B w v k ds} (h : PR B w v k ds) (j : Nat) (hj : v.ownBlock = some j) : B ≤ j ∧ j < w.heap.size := by
  rcases h with ⟨rfl, _⟩ | ⟨g, off, cap, cur, rfl, hb, hg, _⟩
  · cases hj
  · simp only [Value.ownBlock, Option.some.injEq] at hj
    subst hj
    exact ⟨hb, (Array.getElem?_eq_some_iff.1 hg).1⟩
theorem PR.kept {B w w1 v k ds} (h : PR B w v k ds) (hg : ∀ j, v.ownBlock = some j → w1.heap[j]? = w.heap[j]?) : PR B w1 v k ds := by
  rcases h with h | ⟨g, off, cap, cur, rfl, hb, hh, r⟩
  · exact .inl h
  · exact .inr ⟨g, off, cap, cur, rfl, hb, (hg g rfl).trans hh, r⟩
theorem PR.lower {B B' w v k ds} (h : PR B w v k ds) (hB : B' ≤ B) : PR B' w v k ds := by
  rcases h with h | ⟨g, off, cap, cur, rfl, hb, r⟩
  · exact .inl h
  · exact .inr ⟨g, off, cap, cur, rfl, by omega, r⟩
theorem PR.is {B w v k ds} (h : PR B w v k ds) : ∃ a c, v = .slice a ds.length c ∧ ds.length ≤ c ∧ (a = none → c = 0) := by
  rcases h with ⟨rfl, rfl⟩ | ⟨g, off, cap, cur, rfl, _, _, hc, _⟩
  · exact ⟨none, 0, rfl, Nat.le_refl _, fun _ => rfl⟩
  · exact ⟨_, cap, rfl, hc, fun e => by cases e⟩
theorem PR.news {B w ad n c k ds} (h : PR B w (.slice (some ad) n c) k ds) : ∀ j u, (flP k ds)[j]? = some u → w.cell? (ad.add j) = some u := by
  intro j u hj
  rcases h with ⟨e, _⟩ | ⟨g, off, cap, cur, e, _, hg, _, _, hx, _⟩
  · cases e
  · cases e
    have hl : j < ds.length * 2 := by
      have := (List.getElem?_eq_some_iff.1 hj).1
      rw [flP_len] at this; exact this
    rw [Go.WideShapes.add_plain, cell_of_row w g _ cur _ _ hg, hx j hl, hj]
/-- A row's elements. -/
def Elt (t e : TypeId) (size : Nat) : Prop := ∃ i z, Tryd.prog.underlying t = some (.slice e) ∧ Tryd.prog.info? e = some i ∧ i.zero = some z ∧ i.size = size ∧ i.bytes ≤ 100 ∧ z.cells.size = size ∧ 0 < size
theorem elt_of {t e : TypeId} {size bytes : Nat} (ht : Tryd.prog.underlying t = some (.slice e)) (h1 : (Tryd.prog.info? e).map (fun i => (i.size, i.bytes)) = some (size, bytes)) (h2 : ((Tryd.prog.info? e).bind (·.zero)).map (fun z => z.cells.size) = some size) (hb : bytes ≤ 100) (hs : 0 < size) : Elt t e size := by
  unfold Elt
  cases h : Tryd.prog.info? e with
  | none => rw [h] at h1; cases h1
  | some i =>
    rw [h] at h1 h2
    simp at h1 h2
    obtain ⟨z, hz, hs'⟩ := h2
    exact ⟨i, z, ht, rfl, hz, h1.1, by omega, hs', hs⟩
theorem eltP : Elt 93 96 2 := elt_of (bytes := 24) Tryd.underlying93 (by kernel_rfl) (by kernel_rfl) (by decide) (by decide)
theorem eltS : Elt 97 9 1 := elt_of (bytes := 16) Tryd.underlying97 (by kernel_rfl) (by kernel_rfl) (by decide) (by decide)
theorem run_app {t e : TypeId} {size : Nat} (hE : Elt t e size) (w : World) (ty : TypeId) (B : Nat) (v : Value) (n : Nat) (xs : List Value) (hown : w.ownsRow B e size v n xs) (ax : Option Addr) (len cx : Nat) (news : List Value) (hl : news.length = len * size)
    (hnews : ∀ ad, ax = some ad → ∀ j u, news[j]? = some u → w.cell? (ad.add j) = some u) (h1 : ∀ u ∈ news, u.oneCell' = true) (hc : len ≤ cx) (hn : ax = none → cx = 0) (hb : n + len ≤ 1000000) (hB : B ≤ w.heap.size) :
    ∃ v' w', (Builtin.append_ #[t, t] ty #[v, .slice ax len cx]).run Tryd.prog w = .ok v' w' ∧ w'.ownsRow B e size v' (n + len) (xs ++ news) ∧ w.grownBy w' v.ownBlock ∧ (v'.ownBlock = v.ownBlock ∨ v'.ownBlock = some w.heap.size) := by
  obtain ⟨i, z, ht, hi, hz, hs, hby, hzs, hpos⟩ := hE
  cases ax with
  | none =>
    obtain rfl := hn rfl
    obtain rfl : len = 0 := by omega
    obtain rfl : news = [] := List.eq_nil_of_length_eq_zero (by simpa using hl)
    exact ⟨v, w, run_append_owned_none w B t ty e i size ht hi v n xs hown, by simpa using hown, World.grownBy.refl _ _, .inl rfl⟩
  | some ad =>
    have hbb : (n + len) * i.bytes ≤ 1000000 * 100 := Nat.mul_le_mul hb hby
    obtain ⟨v', w', r1, r2, r3, _, r5⟩ := run_append_own_at (P := Tryd.prog) w B t ty e i z size i.bytes ht hi hz hs rfl hzs hpos v n xs hown ad len cx news hl (hnews ad rfl) h1 (by unfold maxLen; omega) (by omega) hB
    exact ⟨v', w', r1, r2, r3, r5⟩
/-- A piece more. -/
theorem run_appP (w : World) (ty : TypeId) (B : Nat) (v : Value) (k : Nat) (ds : List ByteArray) (hr : PR B w v k ds) (ad : Addr) (c : Nat) (x : ByteArray) (hx : ∀ j u, (flP (k + ds.length) [x])[j]? = some u → w.cell? (ad.add j) = some u) (hc : 1 ≤ c) (hl : ds.length ≤ 1000) (hB : B ≤ w.heap.size) :
    ∃ a' c' w', (Builtin.append_ #[93, 93] ty #[v, .slice (some ad) 1 c]).run Tryd.prog w = .ok (.slice a' (ds.length + 1) c') w' ∧ PR B w' (.slice a' (ds.length + 1) c') k (ds ++ [x]) ∧ w.grownBy w' v.ownBlock ∧ (∀ j, (Value.slice a' (ds.length + 1) c').ownBlock = some j → v.ownBlock = some j ∨ w.heap.size ≤ j) := by
  have key : ∀ v', (∃ w', (Builtin.append_ #[93, 93] ty #[v, .slice (some ad) 1 c]).run Tryd.prog w = .ok v' w' ∧ w'.ownsRow B 96 2 v' (ds.length + 1) (flP k ds ++ flP (k + ds.length) [x]) ∧ w.grownBy w' v.ownBlock ∧ (∀ j, v'.ownBlock = some j → v.ownBlock = some j ∨ w.heap.size ≤ j)) →
      ∃ a' c' w', (Builtin.append_ #[93, 93] ty #[v, .slice (some ad) 1 c]).run Tryd.prog w = .ok (.slice a' (ds.length + 1) c') w' ∧ PR B w' (.slice a' (ds.length + 1) c') k (ds ++ [x]) ∧ w.grownBy w' v.ownBlock ∧ (∀ j, (Value.slice a' (ds.length + 1) c').ownBlock = some j → v.ownBlock = some j ∨ w.heap.size ≤ j) := by
    rintro v' ⟨w', h1, h2, h3, h4⟩
    have hp : PR B w' v' k (ds ++ [x]) := by
      refine RowP.pr ?_
      unfold RowP
      rw [flP_app, List.length_append]
      exact h2
    obtain ⟨a', c', e, _⟩ := hp.is
    rw [List.length_append] at e
    subst e
    exact ⟨a', c', w', h1, hp, h3, h4⟩
  have hnl : (flP (k + ds.length) [x]).length = 1 * 2 := by rw [flP_len]; rfl
  rcases hr with ⟨rfl, rfl⟩ | ⟨g, off, cap, cur, rfl, hb, hg, hcc, hsz, hcell, hcase⟩
  · obtain ⟨v', w', h1, h2, h3, h4⟩ := run_app eltP w ty B (.slice none 0 0) 0 [] (World.ownsRow_nil _ _ _ _) (some ad) 1 c (flP (k + ([] : List ByteArray).length) [x]) hnl (fun ad' e => by cases e; exact hx) (flP_one _ _) hc (fun e => by cases e) (by omega) hB
    refine key v' ⟨w', h1, h2, h3, fun j hj => ?_⟩
    rcases h4 with h4 | h4
    · exact .inl (h4 ▸ hj)
    · rw [h4] at hj; cases hj; exact .inr (Nat.le_refl _)
  · rcases hcase with hfull | ⟨rfl, hcs, hcm⟩
    · obtain ⟨i, z, ht, hi, hz, hs, hby, hzs, hpos⟩ := eltP
      have hbb : (ds.length + 1) * i.bytes ≤ 1001 * 100 := Nat.mul_le_mul (by omega) hby
      obtain ⟨v', w', h1, h2, h3⟩ := run_append_arg_grows (P := Tryd.prog) w 93 ty 96 i z 2 i.bytes ht hi hz hs rfl hzs hpos ⟨g, off, none⟩ ds.length cap (flP k ds) (flP_len _ _)
        (fun j u hj => by
          have hl : j < ds.length * 2 := by
            have := (List.getElem?_eq_some_iff.1 hj).1
            rw [flP_len] at this; exact this
          rw [Go.WideShapes.add_plain, cell_of_row w g _ cur _ _ hg, hcell j hl, hj])
        ad 1 c (flP (k + ds.length) [x]) hnl hx (by omega) (by unfold maxLen; omega) (by omega)
      have h2' : w'.ownsRow B 96 2 v' (ds.length + 1) (flP k ds ++ flP (k + ds.length) [x]) := by
        obtain ⟨q1, q2⟩ := h2
        refine ⟨q1, ?_⟩
        rcases q2 with q2 | ⟨g', c', cur', e', hb', r'⟩
        · exact .inl q2
        · exact .inr ⟨g', c', cur', e', by omega, r'⟩
      exact key v' ⟨w', h1, h2', ⟨h3.os, h3.tape, h3.output, h3.size, fun j hj _ => h3.block j hj (by simp)⟩, fun j hj => .inr (h2.lt j hj).1⟩
    · have hown : w.ownsRow B 96 2 (.slice (some ⟨g, 0, none⟩) ds.length cap) ds.length (flP k ds) := by
        refine ⟨flP_len _ _, .inr ⟨g, cap, cur, rfl, hb, hg, hcc, hcm, hcs, ?_⟩⟩
        apply List.ext_getElem?
        intro j
        rw [List.getElem?_take]
        split
        · rename_i hj
          rw [← hcell j hj, Nat.zero_add]
          simp
        · rename_i hj
          rw [List.getElem?_eq_none (by rw [flP_len]; omega)]
      obtain ⟨v', w', h1, h2, h3, h4⟩ := run_app eltP w ty B _ ds.length (flP k ds) hown (some ad) 1 c (flP (k + ds.length) [x]) hnl (fun ad' e => by cases e; exact hx) (flP_one _ _) hc (fun e => by cases e) (by omega) hB
      refine key v' ⟨w', h1, h2, h3, fun j hj => ?_⟩
      rcases h4 with h4 | h4
      · exact .inl (h4 ▸ hj)
      · rw [h4] at hj; cases hj; exact .inr (Nat.le_refl _)
/-- Pieces copied. -/
theorem run_cloneP (w : World) (ty : TypeId) (B : Nat) (a : Option Addr) (c : Nat) (k : Nat) (ds : List ByteArray) (hr : PR B w (.slice a ds.length c) k ds) (hl : ds.length ≤ 1000) :
    ∃ a' c' w', (Builtin.append_ #[93, 93] ty #[.slice (some ⟨w.heap.size, 0, none⟩) 0 0, .slice a ds.length c]).run Tryd.prog (w.alloc (.cells #[] 96)) = .ok (.slice a' ds.length c') w' ∧ RowP w.heap.size w' (.slice a' ds.length c') k ds ∧ Below w.heap.size w w' := by
  have hown : (w.alloc (.cells #[] 96)).ownsRow w.heap.size 96 2 (.slice (some ⟨w.heap.size, 0, none⟩) 0 0) 0 [] := World.ownsRow_lit w #[] 0 (Nat.le_refl _) (Nat.zero_le _) rfl
  obtain ⟨a0, c0, e, hc, hn⟩ := hr.is
  cases e
  have hr1 : PR B (w.alloc (.cells #[] 96)) (.slice a ds.length c) k ds := hr.kept fun j hj => (Joins.below_alloc1 w _).block j (hr.lt j hj).2
  obtain ⟨v', w', h1, h2, h3, h4⟩ := run_app eltP (w.alloc (.cells #[] 96)) ty w.heap.size _ 0 [] hown a ds.length c (flP k ds) (flP_len _ _) (fun ad e => by subst e; exact hr1.news) (flP_one _ _) hc hn (by omega) (by simp)
  rw [Nat.zero_add, List.nil_append] at h2
  have hp : RowP w.heap.size w' v' k ds := h2
  obtain ⟨a', c', e, _⟩ := hp.pr.is
  subst e
  exact ⟨a', c', w', h1, hp, (Joins.below_alloc1 w _).grown h3 (by simp) (fun j hj => (hown.lt j hj).1)⟩
/-- What a sender's call leaves: all but its block and its row. -/
structure Fr (w w' : World) (b : Nat) (r : Option Nat) : Prop where
  os : w'.os = w.os
  tape : w'.tape = w.tape
  output : w'.output = w.output
  size : w.heap.size ≤ w'.heap.size
  block : ∀ i, i < w.heap.size → i ≠ b → some i ≠ r → w'.heap[i]? = w.heap[i]?
theorem Fr.refl (w : World) (b : Nat) (r : Option Nat) : Fr w w b r := ⟨rfl, rfl, rfl, Nat.le_refl _, fun _ _ _ _ => rfl⟩
theorem Fr.trans {w1 w2 w3 : World} {b : Nat} {r : Option Nat} (h : Fr w1 w2 b r) (k : Fr w2 w3 b r) : Fr w1 w3 b r :=
  ⟨k.os.trans h.os, k.tape.trans h.tape, k.output.trans h.output, Nat.le_trans h.size k.size, fun i hi h1 h2 => (k.block i (Nat.lt_of_lt_of_le hi h.size) h1 h2).trans (h.block i hi h1 h2)⟩
theorem Fr.ofRow {w w' : World} {b : Nat} {r : Option Nat} (h : w.grownBy w' r) : Fr w w' b r := ⟨h.os, h.tape, h.output, h.size, fun i hi _ h2 => h.block i hi h2⟩
theorem Fr.ofBelow {w w' : World} {b : Nat} {r : Option Nat} (h : Below w.heap.size w w') : Fr w w' b r := ⟨h.os, h.tape, h.output, h.size, fun i hi _ _ => h.block i hi⟩
theorem Fr.set (w : World) (b i : Nat) (v : Value) (r : Option Nat) : Fr w (w.setCell ⟨b, i, none⟩ v) b r := ⟨rfl, rfl, rfl, by simp [World.setCell], fun k _ hk _ => Below.heap_setCell _ _ _ _ hk⟩
theorem Fr.below {B : Nat} {w0 w w' : World} {b : Nat} {r : Option Nat} (h : Below B w0 w) (k : Fr w w' b r) (h1 : B ≤ b) (h2 : ∀ j, r = some j → B ≤ j) (hB : B ≤ w.heap.size) : Below B w0 w' :=
  h.trans ⟨k.os, k.tape, k.output, k.size, fun i hi => k.block i (by omega) (by omega) (fun e => by have := h2 i e.symm; omega)⟩
theorem grown_set (w : World) (b i : Nat) (v : Value) : w.grownBy (w.setCell ⟨b, i, none⟩ v) (some b) := ⟨rfl, rfl, rfl, by simp [World.setCell], fun k _ hk => Below.heap_setCell _ _ _ _ (fun e => hk (by rw [e]))⟩
/-- Cells stored one behind the other. -/
theorem setCells_row : ∀ (vs : List Value) (w : World) (b o : Nat) (cur : Array Value) (t : TypeId) (fr : Nat × Nat), w.heap[b]? = some (.cells cur t fr) →
    (∃ cur', (w.setCells b o vs).heap[b]? = some (.cells cur' t fr) ∧ cur'.size = cur.size ∧ ∀ j, o + vs.length ≤ j → cur'[j]? = cur[j]?) ∧ w.grownBy (w.setCells b o vs) (some b)
  | [], w, b, o, cur, t, fr, h => ⟨⟨cur, h, rfl, fun _ _ => rfl⟩, World.grownBy.refl _ _⟩
  | x :: vs, w, b, o, cur, t, fr, h => by
    have e : w.setCells b o (x :: vs) = (w.setCell ⟨b, o, none⟩ x).setCells b (o + 1) vs := rfl
    have h1 : (w.setCell ⟨b, o, none⟩ x).heap[b]? = some (.cells (cur.setIfInBounds o x) t fr) := by simp [World.setCell, Array.getElem?_modify, h]
    obtain ⟨⟨cur', h2, h3, h4⟩, h5⟩ := setCells_row vs (w.setCell ⟨b, o, none⟩ x) b (o + 1) _ t fr h1
    rw [e]
    refine ⟨⟨cur', h2, by simpa using h3, fun j hj => ?_⟩, World.grownBy.trans (grown_set w b o x) h5⟩
    rw [List.length_cons] at hj
    rw [h4 j (by omega), Array.getElem?_setIfInBounds, if_neg (by omega)]
/-- Pieces cleared: their row's cells from there on are as they were. -/
theorem run_clearP (w : World) (ty : TypeId) (g off n c : Nat) (cur : Array Value) (hg : w.heap[g]? = some (.cells cur 96 (0, 0))) (hn : 0 < n) (hs : off + n * 2 ≤ cur.size) :
    ∃ w', (Builtin.clear_ #[93] ty #[.slice (some ⟨g, off, none⟩) n c]).run Tryd.prog w = .ok (.tuple #[]) w' ∧ (∃ cur', w'.heap[g]? = some (.cells cur' 96 (0, 0)) ∧ cur'.size = cur.size ∧ ∀ j, off + n * 2 ≤ j → cur'[j]? = cur[j]?) ∧ w.grownBy w' (some g) := by
  have hlen : (Builtin.zeroCells (#[.int .i64 0, .string ⟨#[]⟩] : Array Value) n).toList.length = n * 2 := by simp [Builtin.zeroCells]
  have h1 : ∀ u ∈ (Builtin.zeroCells (#[.int .i64 0, .string ⟨#[]⟩] : Array Value) n).toList, u.oneCell' = true := by
    intro u hu
    simp only [Builtin.zeroCells, Array.toList_map, List.mem_map] at hu
    obtain ⟨i, _, rfl⟩ := hu
    rcases (show i % 2 = 0 ∨ i % 2 = 1 by omega) with h | h
    · simp [h]; rfl
    · simp [h]; rfl
  have hst := run_storeCells_cells (P := Tryd.prog) g off (Builtin.zeroCells (#[.int .i64 0, .string ⟨#[]⟩] : Array Value) n).toList 0 w
    (fun j hj => by
      rw [cell_of_row w g _ cur _ _ hg]
      rw [hlen] at hj
      simp; omega)
    (fun j _ => by simp [World.frozen?, hg]) h1
  obtain ⟨⟨cur', r1, r2, r3⟩, r4⟩ := setCells_row (Builtin.zeroCells (#[.int .i64 0, .string ⟨#[]⟩] : Array Value) n).toList w g (off + 0) cur _ _ hg
  rw [hlen] at r3
  refine ⟨_, ?_, ⟨cur', r1, r2, fun j hj => r3 j (by omega)⟩, r4⟩
  obtain ⟨m, rfl⟩ : ∃ m, n = m + 1 := ⟨n - 1, by omega⟩
  have hz : (Value.agg #[.int .i64 0, .string ⟨#[]⟩]).cells = #[.int .i64 0, .string ⟨#[]⟩] := rfl
  simp [Builtin.clear_, run_underlying Tryd.underlying93, hz, hst]
theorem slP_front (a : Option Addr) (len cap n : Nat) (h : n ≤ cap) (w : World) : (Instr.sliceAt 93 (.slice a len cap) none (some (.int .i64 n)) none).run Tryd.prog w = .ok (.slice a n cap) w := by
  rw [run_sliceAt_slice _ _ _ _ _ _ Tryd.underlying93]
  cases a <;> simp [Instr.slice, Instr.sliceBounds, Instr.sliceBound, asIntOf, run_underlying Tryd.underlying93, go_sem] <;> (intro hx; omega)
theorem slP_three (a : Option Addr) (len cap n h : Nat) (h1 : n ≤ h) (h2 : h ≤ cap) (w : World) : (Instr.sliceAt 93 (.slice a len cap) (some (.int .i64 n)) (some (.int .i64 h)) (some (.int .i64 h))).run Tryd.prog w = .ok (.slice (if h = n then a else a.map (·.add (n * 2))) (h - n) (h - n)) w := by
  rw [run_sliceAt_slice _ _ _ _ _ _ Tryd.underlying93]
  simp [Instr.slice, Instr.sliceBounds, Instr.sliceBound, asIntOf, run_underlying Tryd.underlying93, go_sem, h1, h2]
end Go.Proofs.YtjmkdgjdemndaaaDoor.K
/- Rows of texts that grow. -/
namespace Go.Proofs.YtjmkdgjdemndaaaDoor.K
open Go Go.RowKit
set_option maxRecDepth 20000
def flS (ts : List ByteArray) : List Value := ts.map Value.string
theorem flS_len (ts : List ByteArray) : (flS ts).length = ts.length * 1 := by simp [flS]
theorem flS_app (us vs : List ByteArray) : flS (us ++ vs) = flS us ++ flS vs := by simp [flS]
theorem flS_one (ts : List ByteArray) : ∀ u ∈ flS ts, u.oneCell' = true := by
  intro u hu
  simp only [flS, List.mem_map] at hu
  obtain ⟨t, _, rfl⟩ := hu
  rfl
/-- The cells of texts lie there. -/
structure SsAt (w : World) (a : Option Addr) (len : Nat) (ts : List ByteArray) : Prop where
  size : ts.length = len
  lies : 0 < len → ∃ b off, a = some ⟨b, off, none⟩ ∧ b < w.heap.size ∧ ∀ i, i < ts.length → w.cell? ⟨b, off + i, none⟩ = some (.string (ts.getD i emp))
theorem ssAt_below {w w' : World} {B : Nat} {a : Option Addr} {len : Nat} {ts : List ByteArray} (h : SsAt w a len ts) (hb : Below B w w') (hB : w.heap.size ≤ B := by exact Nat.le_refl _) : SsAt w' a len ts :=
  ⟨h.size, fun h0 => by
    obtain ⟨b, off, e, hl, hf⟩ := h.lies h0
    exact ⟨b, off, e, by have := hb.size; omega, fun i hi => (hb.cell (show b < B by omega)).trans (hf i hi)⟩⟩
theorem ssAt_news {w : World} {ad : Addr} {len : Nat} {ts : List ByteArray} (h : SsAt w (some ad) len ts) : ∀ j v, (flS ts)[j]? = some v → w.cell? (ad.add j) = some v := by
  intro j v hj
  have hs := h.size
  have hjl : j < ts.length := by
    have := (List.getElem?_eq_some_iff.1 hj).1
    rw [flS_len] at this
    omega
  obtain ⟨b, off, e, _, hf⟩ := h.lies (by omega)
  simp only [Option.some.injEq] at e
  subst e
  rw [Go.WideShapes.add_plain, hf j hjl, ← hj]
  simp [flS, List.getD_eq_getElem?_getD, hjl]
/-- A row of texts of the call's own. -/
def RowS (B : Nat) (w : World) (v : Value) (l : List ByteArray) : Prop := w.ownsRow B 9 1 v l.length (flS l)
theorem RowS.is {B w v l} (h : RowS B w v l) : ∃ a c, v = .slice a l.length c ∧ SsAt w a l.length l ∧ l.length ≤ c ∧ (a = none → c = 0) := by
  rcases h.2 with ⟨rfl, h0⟩ | ⟨g, cap, cur, rfl, _, hg, hc, _⟩
  · rw [h0]; exact ⟨none, 0, rfl, ⟨h0, fun hx => absurd hx (Nat.lt_irrefl _)⟩, Nat.le_refl _, fun _ => rfl⟩
  · refine ⟨some ⟨g, 0, none⟩, cap, rfl, ⟨rfl, fun _ => ⟨g, 0, rfl, (Array.getElem?_eq_some_iff.1 hg).1, fun i hi => ?_⟩⟩, hc, fun e => by cases e⟩
    rw [Nat.zero_add, World.ownsRow.cellAt h i (by omega)]
    simp [flS, List.getD_eq_getElem?_getD, hi]
theorem RowS.isS {B w a n c l} (h : RowS B w (.slice a n c) l) (hn : n = l.length) : SsAt w a n l ∧ n ≤ c ∧ (a = none → c = 0) := by
  subst hn
  obtain ⟨a', c', e, hi, h1, h2⟩ := h.is
  cases e
  exact ⟨hi, h1, h2⟩
theorem rowS_nil (B : Nat) (w : World) : RowS B w (.slice none 0 0) [] := World.ownsRow_nil w B _ _
theorem RowS.lt {B w v l} (h : RowS B w v l) (j : Nat) (hj : v.ownBlock = some j) : B ≤ j ∧ j < w.heap.size := World.ownsRow.lt h j hj
theorem RowS.typ {B w v l} (h : RowS B w v l) (j : Nat) (hj : v.ownBlock = some j) : ∃ cur, w.heap[j]? = some (.cells cur 9 (0, 0)) := by
  rcases h.2 with ⟨rfl, _⟩ | ⟨g, cap, cur, rfl, _, hg, _⟩
  · cases hj
  · simp only [Value.ownBlock, Option.some.injEq] at hj
    subst hj
    exact ⟨cur, hg⟩
theorem RowS.kept {B w w1 v l} (h : RowS B w v l) {row : Option Nat} (hg : w.grownBy w1 row) (hne : v.ownBlock = none ∨ v.ownBlock ≠ row) : RowS B w1 v l := World.ownsRow.kept h hg hne
theorem RowS.below {B w w1 v l} (h : RowS B w v l) (hb : Below w.heap.size w w1) : RowS B w1 v l := h.kept (grownOf none hb) (Classical.em _)
theorem RowS.alloc {B w v l} (h : RowS B w v l) (o : Obj) : RowS B (w.alloc o) v l := World.ownsRow.alloc h o
theorem rowS_new (w : World) : RowS w.heap.size (w.alloc (.cells #[] 9)) (.slice (some ⟨w.heap.size, 0, none⟩) 0 0) [] := World.ownsRow_lit w #[] 0 (Nat.le_refl _) (Nat.zero_le _) rfl
theorem belS {B : Nat} {w w1 w2 : World} {v : Value} {l : List ByteArray} (hr : RowS B w1 v l) (h : Below B w w1) (hg : w1.grownBy w2 v.ownBlock) (hB : B ≤ w1.heap.size) : Below B w w2 := h.grown hg hB (fun j hj => (World.ownsRow.lt hr j hj).1)
theorem run_appS (w : World) (ty : TypeId) (B : Nat) (v : Value) (l : List ByteArray) (hrow : RowS B w v l) (ax : Option Addr) (len cx : Nat) (us : List ByteArray) (hu : SsAt w ax len us) (hc : len ≤ cx) (hn : ax = none → cx = 0) (hb : l.length + len ≤ 1000000) (hB : B ≤ w.heap.size) :
    ∃ a' c' w', (Builtin.append_ #[97, 97] ty #[v, .slice ax len cx]).run Tryd.prog w = .ok (.slice a' (l.length + len) c') w' ∧ RowS B w' (.slice a' (l.length + len) c') (l ++ us) ∧ w.grownBy w' v.ownBlock ∧ ((Value.slice a' (l.length + len) c').ownBlock = v.ownBlock ∨ (Value.slice a' (l.length + len) c').ownBlock = some w.heap.size) := by
  obtain ⟨v', w', h1, h2, h3, h4⟩ := run_app eltS w ty B v l.length (flS l) hrow ax len cx (flS us) (by rw [flS_len, hu.size]) (fun ad e => by subst e; exact ssAt_news hu) (flS_one us) hc hn hb hB
  have hr : RowS B w' v' (l ++ us) := by
    unfold RowS
    rw [List.length_append, hu.size, flS_app]
    exact h2
  obtain ⟨a', c', e, _⟩ := hr.is
  rw [List.length_append, hu.size] at e
  subst e
  exact ⟨a', c', w', h1, hr, h3, h4⟩
theorem wpList_appS {ops : Array Oper} {rest : List Oper} {o : Oper} {a : Act} {Q : Exit → Act → World → Prop} {w : World} (hgd : o.guard = none) (s x : Operand)
    (ho : o.op = .call { callee := .builtin .append, args := #[s, x], argTypes := #[97, 97] })
    (B : Nat) (v : Value) (l : List ByteArray) (hs : a.eval s = v) (hrow : RowS B w v l) (ax : Option Addr) (len cx : Nat) (hx : a.eval x = .slice ax len cx) (us : List ByteArray) (hu : SsAt w ax len us) (hc : len ≤ cx) (hn : ax = none → cx = 0) (hb : l.length + len ≤ 1000000) (hB : B ≤ w.heap.size)
    (h : ∀ a' c' w', RowS B w' (.slice a' (l.length + len) c') (l ++ us) → w.grownBy w' v.ownBlock → ((Value.slice a' (l.length + len) c').ownBlock = v.ownBlock ∨ (Value.slice a' (l.length + len) c').ownBlock = some w.heap.size) → wpList Tryd.prog ops Q rest (a.put o.dst (.slice a' (l.length + len) c')) w') :
    wpList Tryd.prog ops Q (o :: rest) a w := by
  refine wpList_plain hgd fun K hK => ?_
  obtain ⟨a', c', w', hr, h2, h3, h4⟩ := run_appS w o.type B v l hrow ax len cx us hu hc hn hb hB
  unfold Oper.wp execOp
  simp only [ho, resolve, invoke, builtin, Sem.run_bind, Sem.run_pure, Result.andThen_ok, List.map_toArray, List.map_cons, List.map_nil, hs, hx, hr]
  exact hK _ _ (h a' c' w' h2 h3 h4)
theorem step_appS {ops : Array Oper} {o : Oper} {a : Act} {K : Act → World → Prop} {Q : Exit → Act → World → Prop} {E : Prop} {w : World} (hw : Region.wanted o (yielded ops a.tmps) = true) (s x : Operand)
    (ho : o.op = .call { callee := .builtin .append, args := #[s, x], argTypes := #[97, 97] })
    (B : Nat) (v : Value) (l : List ByteArray) (hs : a.eval s = v) (hrow : RowS B w v l) (ax : Option Addr) (len cx : Nat) (hx : a.eval x = .slice ax len cx) (us : List ByteArray) (hu : SsAt w ax len us) (hc : len ≤ cx) (hn : ax = none → cx = 0) (hb : l.length + len ≤ 1000000) (hB : B ≤ w.heap.size)
    (h : ∀ a' c' w', RowS B w' (.slice a' (l.length + len) c') (l ++ us) → w.grownBy w' v.ownBlock → ((Value.slice a' (l.length + len) c').ownBlock = v.ownBlock ∨ (Value.slice a' (l.length + len) c').ownBlock = some w.heap.size) → K (a.put o.dst (.slice a' (l.length + len) c')) w') :
    if Region.wanted o (yielded ops a.tmps) = true then Oper.wp Tryd.prog o a w K Q else E := by
  rw [if_pos hw]
  obtain ⟨a', c', w', hr, h2, h3, h4⟩ := run_appS w o.type B v l hrow ax len cx us hu hc hn hb hB
  unfold Oper.wp execOp
  simp only [ho, resolve, invoke, builtin, Sem.run_bind, Sem.run_pure, Result.andThen_ok, List.map_toArray, List.map_cons, List.map_nil, hs, hx, hr]
  exact h a' c' w' h2 h3 h4
theorem wpList_appS0 {ops : Array Oper} {rest : List Oper} {o : Oper} {a : Act} {Q : Exit → Act → World → Prop} {w : World} (hgd : o.guard = none) (s x : Operand)
    (ho : o.op = .call { callee := .builtin .append, args := #[s, x], argTypes := #[97, 97] })
    (hs : a.eval s = .slice (some ⟨w.heap.size, 0, none⟩) 0 0) (ax : Option Addr) (len cx : Nat) (hx : a.eval x = .slice ax len cx) (us : List ByteArray) (hu : SsAt w ax len us) (hc : len ≤ cx) (hn : ax = none → cx = 0) (hb : len ≤ 1000000)
    (h : ∀ a' c' w', RowS w.heap.size w' (.slice a' len c') us → Below w.heap.size w w' → wpList Tryd.prog ops Q rest (a.put o.dst (.slice a' len c')) w') :
    wpList Tryd.prog ops Q (o :: rest) a (w.alloc (.cells #[] 9)) := by
  refine wpList_appS hgd s x ho w.heap.size _ [] hs (rowS_new w) ax len cx hx us (ssAt_below hu (Joins.below_alloc1 _ _)) hc hn (by simpa using hb) (by simp) ?_
  intro a' c' w' h1 h2 _
  simp only [List.length_nil, Nat.zero_add, List.nil_append] at h1 ⊢
  exact h a' c' w' h1 (belS (rowS_new w) (Joins.below_alloc1 _ _) h2 (by simp))
theorem ssAt_one (w : World) (x : ByteArray) : SsAt (w.alloc (.cells #[.string x] 9)) (some ⟨w.heap.size, 0, none⟩) 1 [x] :=
  ⟨rfl, fun _ => ⟨w.heap.size, 0, rfl, by simp, fun i hi => by
    obtain rfl : i = 0 := by simpa using hi
    exact cell_at (new_at rfl) 0 _ rfl⟩⟩
theorem slS_front (a : Option Addr) (len cap n : Nat) (h : n ≤ cap) (w : World) : (Instr.sliceAt 97 (.slice a len cap) none (some (.int .i64 n)) none).run Tryd.prog w = .ok (.slice a n cap) w := by
  rw [run_sliceAt_slice _ _ _ _ _ _ Tryd.underlying97]
  cases a <;> simp [Instr.slice, Instr.sliceBounds, Instr.sliceBound, asIntOf, run_underlying Tryd.underlying97, go_sem] <;> (intro hx; omega)
theorem slS_back (a : Option Addr) (len cap n : Nat) (h : n ≤ len) (w : World) : (Instr.sliceAt 97 (.slice a len cap) (some (.int .i64 n)) none none).run Tryd.prog w = .ok (.slice (if cap = n then a else a.map (·.add (n * 1))) (len - n) (cap - n)) w := by
  rw [run_sliceAt_slice _ _ _ _ _ _ Tryd.underlying97]
  simp [Instr.slice, Instr.sliceBounds, Instr.sliceBound, asIntOf, run_underlying Tryd.underlying97, go_sem]
  intro hx; omega
theorem RowS.front {B w a n c l} (h : RowS B w (.slice a n c) l) (hn : n = l.length) {j : Nat} (hj : j ≤ n) : RowS B w (.slice a j c) (l.take j) := by
  subst hn
  obtain ⟨hl, h⟩ := h
  have hlt : (l.take j).length = j := by rw [List.length_take]; omega
  unfold RowS
  rw [hlt]
  rcases h with ⟨h0, h1⟩ | ⟨g', cap', cur, hv, hb, hc, h1, h2, h3, h4⟩
  · have e : j = 0 := by omega
    subst e
    simp only [Value.slice.injEq] at h0
    obtain ⟨rfl, _, rfl⟩ := h0
    exact World.ownsRow_nil _ _ _ _
  cases hv
  refine ⟨by simp [flS]; omega, .inr ⟨g', c, cur, rfl, hb, hc, by omega, h2, h3, ?_⟩⟩
  rw [show flS (l.take j) = (flS l).take (j * 1) by simp [flS, List.map_take], ← h4, List.take_take]
  congr 1
  omega
theorem SsAt.back {w : World} {a : Option Addr} {len cap : Nat} {ts : List ByteArray} (h : SsAt w a len ts) (hlc : len ≤ cap) {n : Nat} (hn : n ≤ len) : SsAt w (if cap = n then a else a.map (·.add (n * 1))) (len - n) (ts.drop n) := by
  have hs := h.size
  refine ⟨by rw [List.length_drop]; omega, fun h0 => ?_⟩
  obtain ⟨b, off, rfl, hl, hf⟩ := h.lies (by omega)
  have e : (if cap = n then some (⟨b, off, none⟩ : Addr) else (some (⟨b, off, none⟩ : Addr)).map (·.add (n * 1))) = some ⟨b, off + n, none⟩ := by
    rw [if_neg (by omega)]
    simp [Addr.add_lit]
  refine ⟨b, off + n, e, hl, fun i hi => ?_⟩
  rw [List.length_drop] at hi
  have := hf (n + i) (by omega)
  rw [show off + n + i = off + (n + i) by omega, this]
  simp [List.getD_eq_getElem?_getD]
theorem back_none {a : Option Addr} {cap n : Nat} (h : a = none → cap = 0) : (if cap = n then a else a.map (·.add (n * 1))) = none → cap - n = 0 := fun e => by
  split at e
  · rw [h e]; simp
  · cases a with
    | none => rw [h rfl]; simp
    | some x => cases e
theorem RowS.drew {B w v l} (h : RowS B w v l) : RowS B w.drew v l := h
theorem SsAt.drew {w : World} {a : Option Addr} {len : Nat} {ts : List ByteArray} (h : SsAt w a len ts) : SsAt w.drew a len ts := ⟨h.size, h.lies⟩
end Go.Proofs.YtjmkdgjdemndaaaDoor.K
