/- A feed beside a log and a link, plain and as they lie in memory. -/
import Derived.Test.YtjmkdgjdemndaaaDoorC8
import Derived.Test.YtjmkdgjdemndaaaDoorJX
import Derived.Test.YtjmkdgjdemndaaaDoorB8
namespace Go.Proofs.YtjmkdgjdemndaaaDoor
open Go Go.RowKit
set_option maxRecDepth 20000
/-- A common round's bytes. -/
def pxC (r : Cr) : ByteArray := X.pxR r.1 r.2.1 r.2.2
/-- What a link is behind a pump of these rounds; how many it took. -/
def pumpE (E : K.En) : List Cr → K.En
  | [] => E
  | r :: rs => if E.offe = 0 then pumpE (E.off (pxC r)) rs else E
def pumpN (E : K.En) : List Cr → Nat
  | [] => 0
  | r :: rs => if E.offe = 0 then pumpN (E.off (pxC r)) rs + 1 else 0
theorem pumpN_le : ∀ (rs : List Cr) (E : K.En), pumpN E rs ≤ rs.length
  | [], _ => Nat.le_refl _
  | r :: rs, E => by
    unfold pumpN
    split
    · have := pumpN_le rs (E.off (pxC r))
      rw [List.length_cons]
      omega
    · omega
theorem drop_one {L : List Cr} {p : Nat} (h : p < L.length) : L.drop p = L.getD p kr0 :: L.drop (p + 1) := by
  rw [List.drop_eq_getElem_cons h, List.getD_eq_getElem?_getD, List.getElem?_eq_getElem h]
  rfl
theorem pump_end {E : K.En} {L : List Cr} {p : Nat} (h : L.length ≤ p) : pumpE E (L.drop p) = E ∧ pumpN E (L.drop p) = 0 := by
  rw [List.drop_eq_nil_of_le h]
  exact ⟨rfl, rfl⟩
theorem pump_full {E : K.En} {L : List Cr} {p : Nat} (h : E.offe ≠ 0) : pumpE E (L.drop p) = E ∧ pumpN E (L.drop p) = 0 := by
  cases L.drop p with
  | nil => exact ⟨rfl, rfl⟩
  | cons r rs => exact ⟨if_neg h, if_neg h⟩
theorem pump_step {E : K.En} {L : List Cr} {p : Nat} (h : p < L.length) (h0 : E.offe = 0) : pumpE E (L.drop p) = pumpE (E.off (pxC (L.getD p kr0))) (L.drop (p + 1)) ∧ pumpN E (L.drop p) = pumpN (E.off (pxC (L.getD p kr0))) (L.drop (p + 1)) + 1 := by
  rw [drop_one h]
  exact ⟨if_pos h0, if_pos h0⟩
theorem off_full {E : K.En} (h : E.offe ≠ 0) (x : ByteArray) : E.off x = E := by
  obtain ⟨ep, wa, ra, pas, k, ds, q, ps⟩ := E
  unfold K.En.offe K.offE at h
  unfold K.En.off K.offD
  simp only at h ⊢
  split
  · rfl
  · rename_i h1
    rw [if_neg h1] at h
    split
    · rfl
    · rename_i h2
      rw [if_neg h2] at h
      exact absurd rfl h
theorem pxC_size {r : Cr} (h : mayR r.1 r.2.1 r.2.2 = 0) : (pxC r).size ≤ 1000 := by
  obtain ⟨h1, h2⟩ := mayR_zero h
  unfold headOk at h1
  have e1 := X.pxH_size r.1 r.2.1 r.2.2.length
  have e2 := X.catU_all r.2.2 h2
  unfold pxC X.pxR
  rw [ByteArray.size_append]
  omega
/-- A block of one number. -/
def Fc (t : TypeId) (w : World) (b : Nat) (p : Int) : Prop := w.heap[b]? = some (.cells #[.int .i64 p] t (0, 0))
section
variable {t : TypeId} {w w' : World} {b : Nat} {p : Int}
theorem Fc.c0 (h : Fc t w b p) : w.cell? ⟨b, 0, none⟩ = some (.int .i64 p) := cell_at h 0 _ rfl
theorem Fc.f0 (h : Fc t w b p) (i : Nat) : w.frozen? ⟨b, i, none⟩ = false := by unfold Fc at h; simp [World.frozen?, h]
theorem Fc.lt (h : Fc t w b p) : b < w.heap.size := (Array.getElem?_eq_some_iff.1 h).1
theorem Fc.same (h : Fc t w b p) (e : w'.heap[b]? = w.heap[b]?) : Fc t w' b p := e.trans h
theorem Fc.next (h : Fc t w b p) (hb : Below w.heap.size w w') : Fc t w' b p := h.same (hb.block b h.lt)
theorem Fc.set (h : Fc t w b p) (q : Int) : Fc t (w.setCell ⟨b, 0, none⟩ (.int .i64 q)) b q := by
  unfold Fc at *; simp [World.setCell, Array.getElem?_modify, h]
end
/-- What calls on the program's link and feed leave: blocks of other types. -/
def OthF (w w' : World) : Prop := ∀ (X : Nat) (cur : Array Value) (t : TypeId) (fr : Nat × Nat), w.heap[X]? = some (.cells cur t fr) → t ≠ 73 → t ≠ 125 → t ≠ 96 → t ≠ 128 → t ≠ 76 → w'.heap[X]? = w.heap[X]?
/-- What calls on the document's link and feed leave. -/
def OthD (w w' : World) : Prop := ∀ (X : Nat) (cur : Array Value) (t : TypeId) (fr : Nat × Nat), w.heap[X]? = some (.cells cur t fr) → t ≠ 82 → t ≠ 100 → t ≠ 102 → t ≠ 36 → w'.heap[X]? = w.heap[X]?
theorem OthF.trans {w1 w2 w3 : World} (h : OthF w1 w2) (k : OthF w2 w3) : OthF w1 w3 := fun X cur t fr hX h1 h2 h3 h4 h5 => (k X cur t fr ((h X cur t fr hX h1 h2 h3 h4 h5).trans hX) h1 h2 h3 h4 h5).trans (h X cur t fr hX h1 h2 h3 h4 h5)
theorem OthD.trans {w1 w2 w3 : World} (h : OthD w1 w2) (k : OthD w2 w3) : OthD w1 w3 := fun X cur t fr hX h1 h2 h3 h4 => (k X cur t fr ((h X cur t fr hX h1 h2 h3 h4).trans hX) h1 h2 h3 h4).trans (h X cur t fr hX h1 h2 h3 h4)
theorem OthF.ofBelow {w w' : World} (h : Below w.heap.size w w') : OthF w w' := fun X _ _ _ hX _ _ _ _ _ => h.block X (Array.getElem?_eq_some_iff.1 hX).1
theorem OthD.ofBelow {w w' : World} (h : Below w.heap.size w w') : OthD w w' := fun X _ _ _ hX _ _ _ _ => h.block X (Array.getElem?_eq_some_iff.1 hX).1
theorem OthF.ofL {w w' : World} (h : K.OthL w w') : OthF w w' := fun X cur t fr hX h1 h2 h3 h4 _ => h X cur t fr hX h1 h2 h3 h4
theorem OthF.set {w : World} {b : Nat} {p : Int} (h : Fc 76 w b p) (i : Nat) (x : Value) : OthF w (w.setCell ⟨b, i, none⟩ x) := fun _ _ _ _ hX _ _ _ _ h5 => Below.heap_setCell _ _ _ _ (two_types hX h h5)
theorem OthD.set {w : World} {b : Nat} {p : Int} (h : Fc 36 w b p) (i : Nat) (x : Value) : OthD w (w.setCell ⟨b, i, none⟩ x) := fun _ _ _ _ hX _ _ _ h4 => Below.heap_setCell _ _ _ _ (two_types hX h h4)
theorem OthD.ofD {B : Nat} {w w' : World} {b bs : Nat} {v : Value} {br : Nat} {v2 : Value} {pre pre2 : List ByteArray} {E : K.En} {P' : Nat → Prop} (h : K.Dx B w b bs v br v2 pre pre2 E) (hf : K.Lf w w' (K.dft b bs br) P') : OthD w w' :=
  fun X _ _ _ hX h1 h2 h3 _ => hf.block X (Array.getElem?_eq_some_iff.1 hX).1 (h.other hX h1 h2 h3)
/-- A log's blocks are of three types. -/
theorem Cx.typ {T : TypeId} {P : Int → List Cr → Value → Array Value → Prop} {B : Nat} {w : World} {b : Nat} {F : Nat → Prop} {c : Int} {L : List Cr} (h : Cx T P B w b F c L) (k : Nat) (hk : F k) : ∃ cur t fr, w.heap[k]? = some (.cells cur t fr) ∧ (t = T ∨ t = 43 ∨ t = 114) := by
  obtain ⟨cs, v, S, rs, hj, _, _, _, _, _, _, rfl⟩ := h
  rcases hk with rfl | hk | hk
  · exact ⟨_, _, _, hj.blk, .inl rfl⟩
  · obtain ⟨_, cur, hc⟩ := hj.row.typ k hk
    exact ⟨_, _, _, hc, .inr (.inl rfl)⟩
  · obtain ⟨_, cur, hc⟩ := hj.own k hk
    exact ⟨_, _, _, hc, .inr (.inr rfl)⟩
/-- A block of no log's type is none of its. -/
theorem Cx.no {T : TypeId} {P : Int → List Cr → Value → Array Value → Prop} {B : Nat} {w : World} {b : Nat} {F : Nat → Prop} {c : Int} {L : List Cr} (h : Cx T P B w b F c L) {k : Nat} {cur : Array Value} {t : TypeId} {fr : Nat × Nat} (hk : w.heap[k]? = some (.cells cur t fr)) (h1 : t ≠ T) (h2 : t ≠ 43) (h3 : t ≠ 114) : ¬ F k := fun hf => by
  obtain ⟨cur', t', fr', hc, ht⟩ := h.typ k hf
  rw [hk] at hc
  injection hc with hc
  injection hc with _ hc _
  subst hc
  rcases ht with e | e | e
  · exact h1 e
  · exact h2 e
  · exact h3 e
/-- The program's log, link and feed within a law that began in w0. -/
structure Fj (w0 w : World) (lb : Nat) (F : Nat → Prop) (c : Int) (L : List Cr) (b bs br : Nat) (E : K.En) (fb : Nat) (p : Nat) : Prop where
  bel : Below w0.heap.size w0 w
  lg : Cx 69 Pc w0.heap.size w lb F c L
  lk : ∃ v RL, K.Lx w0.heap.size w b bs v br RL E
  fd : Fc 76 w fb (p : Int)
  flo : w0.heap.size ≤ fb
/-- The document's. -/
structure Dj (w0 w : World) (db : Nat) (G : Nat → Prop) (c : Int) (M : List Cr) (d ds dr : Nat) (D : K.En) (gb : Nat) (q : Nat) : Prop where
  bel : Below w0.heap.size w0 w
  lg : Cx 78 Pd w0.heap.size w db G c M
  lk : ∃ u u2 pre pre2, K.Dx w0.heap.size w d ds u dr u2 pre pre2 D
  fd : Fc 36 w gb (q : Int)
  glo : w0.heap.size ≤ gb
section
variable {w0 w w' : World} {lb db : Nat} {F F' G G' : Nat → Prop} {c : Int} {L M : List Cr} {b bs br d ds dr : Nat} {E D : K.En} {fb gb p q : Nat} {r : Cr}
theorem Fj.keep (h : Fj w0 w lb F c L b bs br E fb p) (hb : Below w0.heap.size w0 w') (hl : ∀ k, F k → w'.heap[k]? = w.heap[k]?) (ho : ∀ (X : Nat) (cur : Array Value) (t : TypeId) (fr : Nat × Nat), w.heap[X]? = some (.cells cur t fr) → (t = 73 ∨ t = 125 ∨ t = 96 ∨ t = 128) ∨ t = 76 → w'.heap[X]? = w.heap[X]?) : Fj w0 w' lb F c L b bs br E fb p := by
  obtain ⟨v, RL, hx⟩ := h.lk
  refine ⟨hb, h.lg.keep hl, ⟨v, RL, hx.same fun j hj => ?_⟩, h.fd.same (ho fb _ _ _ h.fd (.inr rfl)), h.flo⟩
  obtain ⟨cur, t, fr, hc, ht⟩ := hx.fty j hj
  exact ho j cur t fr hc (.inl ht)
theorem Dj.keep (h : Dj w0 w db G c M d ds dr D gb q) (hb : Below w0.heap.size w0 w') (hl : ∀ k, G k → w'.heap[k]? = w.heap[k]?) (ho : ∀ (X : Nat) (cur : Array Value) (t : TypeId) (fr : Nat × Nat), w.heap[X]? = some (.cells cur t fr) → (t = 82 ∨ t = 100 ∨ t = 102 ∨ t = 9) ∨ t = 36 → w'.heap[X]? = w.heap[X]?) : Dj w0 w' db G c M d ds dr D gb q := by
  obtain ⟨u, u2, pre, pre2, hx⟩ := h.lk
  refine ⟨hb, h.lg.keep hl, ⟨u, u2, pre, pre2, hx.same fun j hj => ?_⟩, h.fd.same (ho gb _ _ _ h.fd (.inr rfl)), h.glo⟩
  obtain ⟨cur, t, fr, hc, ht⟩ := hx.fty j hj
  exact ho j cur t fr hc (.inl ht)
theorem Fj.next (h : Fj w0 w lb F c L b bs br E fb p) (hb : Below w.heap.size w w') : Fj w0 w' lb F c L b bs br E fb p :=
  h.keep (Below.next h.bel hb) (fun k hk => hb.block k (h.lg.foot k hk).2) fun X _ _ _ hX _ => hb.block X (Array.getElem?_eq_some_iff.1 hX).1
theorem Dj.next (h : Dj w0 w db G c M d ds dr D gb q) (hb : Below w.heap.size w w') : Dj w0 w' db G c M d ds dr D gb q :=
  h.keep (Below.next h.bel hb) (fun k hk => hb.block k (h.lg.foot k hk).2) fun X _ _ _ hX _ => hb.block X (Array.getElem?_eq_some_iff.1 hX).1
theorem Fj.oth (h : Fj w0 w lb F c L b bs br E fb p) (hb : Below w0.heap.size w0 w') (ho : OthD w w') : Fj w0 w' lb F c L b bs br E fb p :=
  h.keep hb (fun k hk => by
    obtain ⟨cur, t, fr, hc, ht⟩ := h.lg.typ k hk
    refine ho k cur t fr hc ?_ ?_ ?_ ?_ <;> (rcases ht with rfl | rfl | rfl <;> decide)) fun X cur t fr hX ht => by
      refine ho X cur t fr hX ?_ ?_ ?_ ?_ <;> (rcases ht with (rfl | rfl | rfl | rfl) | rfl <;> decide)
theorem Dj.oth (h : Dj w0 w db G c M d ds dr D gb q) (hb : Below w0.heap.size w0 w') (ho : OthF w w') : Dj w0 w' db G c M d ds dr D gb q :=
  h.keep hb (fun k hk => by
    obtain ⟨cur, t, fr, hc, ht⟩ := h.lg.typ k hk
    refine ho k cur t fr hc ?_ ?_ ?_ ?_ ?_ <;> (rcases ht with rfl | rfl | rfl <;> decide)) fun X cur t fr hX ht => by
      refine ho X cur t fr hX ?_ ?_ ?_ ?_ ?_ <;> (rcases ht with (rfl | rfl | rfl | rfl) | rfl <;> decide)
/-- A round comes to the program's log. -/
theorem Fj.add (h : Fj w0 w lb F c L b bs br E fb p) (ha : ComW 69 Pc w0.heap.size w w' lb F F' c L r) : Fj w0 w' lb F' c (comL c L r) b bs br E fb p := by
  have hb := ha.lv.below h.bel (fun k hk => (h.lg.foot k hk).1) h.bel.size
  obtain ⟨v, RL, hx⟩ := h.lk
  have hn := fun (X : Nat) (cur : Array Value) (t : TypeId) (fr : Nat × Nat) (hX : w.heap[X]? = some (.cells cur t fr)) (h1 : t ≠ 69) (h2 : t ≠ 43) (h3 : t ≠ 114) => ha.lv.block X (Array.getElem?_eq_some_iff.1 hX).1 (h.lg.no hX h1 h2 h3)
  refine ⟨hb, ha.cx, ⟨v, RL, hx.same fun j hj => ?_⟩, h.fd.same (hn fb _ _ _ h.fd (by decide) (by decide) (by decide)), h.flo⟩
  obtain ⟨cur, t, fr, hc, ht⟩ := hx.fty j hj
  refine hn j cur t fr hc ?_ ?_ ?_ <;> (rcases ht with rfl | rfl | rfl | rfl <;> decide)
theorem Dj.add (h : Dj w0 w db G c M d ds dr D gb q) (ha : ComW 78 Pd w0.heap.size w w' db G G' c M r) : Dj w0 w' db G' c (comL c M r) d ds dr D gb q := by
  have hb := ha.lv.below h.bel (fun k hk => (h.lg.foot k hk).1) h.bel.size
  obtain ⟨u, u2, pre, pre2, hx⟩ := h.lk
  have hn := fun (X : Nat) (cur : Array Value) (t : TypeId) (fr : Nat × Nat) (hX : w.heap[X]? = some (.cells cur t fr)) (h1 : t ≠ 78) (h2 : t ≠ 43) (h3 : t ≠ 114) => ha.lv.block X (Array.getElem?_eq_some_iff.1 hX).1 (h.lg.no hX h1 h2 h3)
  refine ⟨hb, ha.cx, ⟨u, u2, pre, pre2, hx.same fun j hj => ?_⟩, h.fd.same (hn gb _ _ _ h.fd (by decide) (by decide) (by decide)), h.glo⟩
  obtain ⟨cur, t, fr, hc, ht⟩ := hx.fty j hj
  refine hn j cur t fr hc ?_ ?_ ?_ <;> (rcases ht with rfl | rfl | rfl | rfl <;> decide)
/-- The other side, when a round comes to a log. -/
theorem Dj.lv (h : Dj w0 w db G c M d ds dr D gb q) (hb : Below w0.heap.size w0 w') (hg : Cx 69 Pc w0.heap.size w lb F c L) (hl : Lv w w' F) (hd : ∀ k, F k → ¬ G k) : Dj w0 w' db G c M d ds dr D gb q :=
  h.keep hb (fun k hk => hl.block k (h.lg.foot k hk).2 fun hf => hd k hf hk) fun X cur t fr hX ht => by
    refine hl.block X (Array.getElem?_eq_some_iff.1 hX).1 (hg.no hX ?_ ?_ ?_) <;> (rcases ht with (rfl | rfl | rfl | rfl) | rfl <;> decide)
theorem Fj.lv (h : Fj w0 w lb F c L b bs br E fb p) (hb : Below w0.heap.size w0 w') (hg : Cx 78 Pd w0.heap.size w db G c M) (hl : Lv w w' G) (hd : ∀ k, F k → ¬ G k) : Fj w0 w' lb F c L b bs br E fb p :=
  h.keep hb (fun k hk => hl.block k (h.lg.foot k hk).2 fun hf => hd k hk hf) fun X cur t fr hX ht => by
    refine hl.block X (Array.getElem?_eq_some_iff.1 hX).1 (hg.no hX ?_ ?_ ?_) <;> (rcases ht with (rfl | rfl | rfl | rfl) | rfl <;> decide)
end
end Go.Proofs.YtjmkdgjdemndaaaDoor
