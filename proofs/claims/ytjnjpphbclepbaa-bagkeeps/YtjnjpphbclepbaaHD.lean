/- Both bags: each call by one contract. -/
import Derived.Test.YtjnjpphbclepbaaHC
import Derived.Test.YtjnjpphbclepbaaH6
namespace Go.Proofs.Ytjnjpphbclepbaa
open Go Go.RowKit
set_option maxRecDepth 20000
def markOf (p : Pk) : Bool := p.2.2.2
/-- Does a number name a packet? -/
def inb (l : List Pk) (i : Int) : Prop := 0 ≤ i ∧ i < (l.length : Int)
instance (l : List Pk) (i : Int) : Decidable (inb l i) := by unfold inb; exact inferInstance
theorem inb_nat {l : List Pk} {i : Int} (h : inb l i) : ∃ k : Nat, i = (k : Int) ∧ k < l.length ∧ i.toNat = k := ⟨i.toNat, by have := h.1; omega, by have := h.1; have := h.2; omega, rfl⟩
def atP (l : List Pk) (i : Int) : Pkt := if inb l i then pktOf (l.getD i.toNat pq0) else pk0
def tkL (l : List Pk) (i : Int) : List Pk := if inb l i then l.eraseIdx i.toNat else l
def twE (l : List Pk) (i : Int) : Int := if inb l i then (if l.length = 4096 then 7 else 0) else 11
def twL (l : List Pk) (i : Int) : List Pk := if twE l i = 0 then l ++ [l.getD i.toNat pq0] else l
def spE (l : List Pk) (i : Int) : Int := if inb l i then (if markOf (l.getD i.toNat pq0) then 12 else 0) else 11
def spL (l : List Pk) (i bit : Int) (m : Nat) : List Pk := if spE l i = 0 then spoilL l i.toNat bit m else l
/-- The program's bag in block b. -/
def Ck (B : Nat) (w : World) (b : Nat) (l : List Pk) : Prop := ∃ v, Bk B w b v l
section
variable {B b : Nat} {l : List Pk} {w w' : World}
theorem Ck.ok (h : Ck B w b l) : Okb l := by obtain ⟨v, h⟩ := h; exact h.ok
theorem Ck.lt (h : Ck B w b l) : b < w.heap.size := by obtain ⟨v, h⟩ := h; exact h.lt
theorem Ck.lo (h : Ck B w b l) : B ≤ b := by obtain ⟨v, h⟩ := h; exact h.lo
theorem Ck.next (h : Ck B w b l) (hb : Below w.heap.size w w') : Ck B w' b l := by obtain ⟨v, h⟩ := h; exact ⟨v, h.next hb⟩
theorem Ck.asit (h : Ck B w b l) (e : w'.heap = w.heap) : Ck B w' b l := by obtain ⟨v, h⟩ := h; exact ⟨v, h.asit e⟩
theorem Ck.lower {B' : Nat} (h : Ck B w b l) (hB : B' ≤ B) : Ck B' w b l := by obtain ⟨v, h⟩ := h; exact ⟨v, h.lower hB⟩
/-- A block of another type may turn. -/
theorem Ck.grown (h : Ck B w b l) {r : Nat} (hg : w.grownBy w' (some r)) {cur : Array Value} {t : TypeId} {fr : Nat × Nat} (hr : w.heap[r]? = some (.cells cur t fr)) (h1 : t ≠ 53) (h2 : t ≠ 60) : Ck B w' b l := by
  obtain ⟨v, h⟩ := h
  obtain ⟨p, q⟩ := h.box hr h1 h2
  exact ⟨v, h.same (hg.block b h.lt (fun e => p (by cases e; rfl))) (fun j hj => hg.block j (h.row.lt j hj).2 (fun e => q (by rw [hj]; exact e)))⟩
theorem ck_new (w : World) : Calls Try.prog 7 #[] w fun x w' => x = .returned (.pointer (some ⟨w.heap.size, 0, none⟩)) ∧ Ck w.heap.size w' w.heap.size [] ∧ Below w.heap.size w w' ∧ w'.heap.size = w.heap.size + 1 :=
  (new_any w).mono fun _ _ ⟨h1, h2, h3, h4⟩ => ⟨h1, ⟨_, h2⟩, h3, h4⟩
theorem ck_len (h : Ck B w b l) : Calls Try.prog 14 #[.pointer (some ⟨b, 0, none⟩)] w fun x w' => x = .returned (.int .i64 (l.length : Int)) ∧ w' = w := by
  obtain ⟨v, h⟩ := h; exact len_any w h
theorem ck_at (i : Int) (h : Ck B w b l) : Calls Try.prog 13 #[.pointer (some ⟨b, 0, none⟩), .int .i64 i] w fun x w' => x = .returned (.tuple #[pv (atP l i), .bool (decide (inb l i))]) ∧ Below w.heap.size w w' := by
  obtain ⟨v, h⟩ := h
  unfold atP
  by_cases hi : inb l i
  · obtain ⟨k, rfl, hk, he⟩ := inb_nat hi
    rw [if_pos hi, decide_eq_true hi, he]
    exact at_in k hk w h
  · rw [if_neg hi, decide_eq_false hi]
    exact at_out i hi w h
theorem ck_take (i : Int) (h : Ck B w b l) : Calls Try.prog 16 #[.pointer (some ⟨b, 0, none⟩), .int .i64 i] w fun x w' => x = .returned (.tuple #[pv (atP l i), .bool (decide (inb l i))]) ∧ Ck B w' b (tkL l i) ∧ BkW B w w' := by
  obtain ⟨v, h⟩ := h
  unfold atP tkL
  by_cases hi : inb l i
  · obtain ⟨k, rfl, hk, he⟩ := inb_nat hi
    rw [if_pos hi, if_pos hi, decide_eq_true hi, he]
    exact (take_in k hk w h).mono fun _ _ ⟨h1, ⟨v', _, h2⟩, h3⟩ => ⟨h1, ⟨v', h2⟩, BkW.of h h3⟩
  · rw [if_neg hi, if_neg hi, decide_eq_false hi]
    exact (take_out i hi w h).mono fun _ _ ⟨h1, h2⟩ => ⟨h1, ⟨v, h.next h2⟩, BkW.ofBelow h2⟩
theorem ck_twice (i : Int) (h : Ck B w b l) : Calls Try.prog 17 #[.pointer (some ⟨b, 0, none⟩), .int .i64 i] w fun x w' => x = .returned (.int .i64 (twE l i)) ∧ Ck B w' b (twL l i) ∧ BkW B w w' := by
  obtain ⟨v, h⟩ := h
  unfold twL twE
  by_cases hi : inb l i
  · obtain ⟨k, rfl, hk, he⟩ := inb_nat hi
    rw [if_pos hi, he]
    by_cases hf : l.length = 4096
    · rw [if_pos hf, if_neg (by decide)]
      exact (twice_full k hk hf w h).mono fun _ _ ⟨h1, h2⟩ => ⟨h1, by rw [h2]; exact ⟨v, h⟩, by rw [h2]; exact BkW.refl _ _⟩
    · rw [if_neg hf, if_pos rfl]
      exact (twice_ok k hk (by have := h.ok.len; omega) w h).mono fun _ _ ⟨h1, h2, h3⟩ => ⟨h1, h2, BkW.of h h3⟩
  · rw [if_neg hi, if_neg (by decide)]
    exact (twice_none i hi w h).mono fun _ _ ⟨h1, h2⟩ => ⟨h1, by rw [h2]; exact ⟨v, h⟩, by rw [h2]; exact BkW.refl _ _⟩
theorem ck_spoil (i bit : Int) (b1 : -9223372036854775808 ≤ bit) (b2 : bit ≤ 9223372036854775807) (m : Nat) (hm : m < 4294967296) (h : Ck B w b l) : Calls Try.prog 18 #[.pointer (some ⟨b, 0, none⟩), .int .i64 i, .int .i64 bit, .int .u32 (m : Int)] w fun x w' => x = .returned (.int .i64 (spE l i)) ∧ Ck B w' b (spL l i bit m) ∧ BkW B w w' := by
  obtain ⟨v, h⟩ := h
  unfold spL spE
  by_cases hi : inb l i
  · obtain ⟨k, rfl, hk, he⟩ := inb_nat hi
    rw [if_pos hi, he]
    cases hf : markOf (l.getD k pq0) with
    | true =>
      rw [if_pos rfl, if_neg (by decide)]
      exact (spoil_twice k hk hf bit m w h).mono fun _ _ ⟨h1, h2⟩ => ⟨h1, by rw [h2]; exact ⟨v, h⟩, by rw [h2]; exact BkW.refl _ _⟩
    | false =>
      rw [if_neg (by decide), if_pos rfl]
      exact (spoil_ok k hk hf bit b1 b2 m hm w h).mono fun _ _ ⟨h1, ⟨v', _, h2⟩, h3⟩ => ⟨h1, ⟨v', h2⟩, BkW.of h h3⟩
  · rw [if_neg hi, if_neg (by decide)]
    exact (spoil_none i hi bit m w h).mono fun _ _ ⟨h1, h2⟩ => ⟨h1, by rw [h2]; exact ⟨v, h⟩, by rw [h2]; exact BkW.refl _ _⟩
theorem ck_add (pa : Option Addr) (pl pc : Nat) (ps : List Pkt) (h : Ck B w b l) (hp : PsAt w pa pl ps) (hpc : pl ≤ pc) (hpn : ∀ g off, pa = some ⟨g, off, none⟩ → ∃ cur fr, w.heap[g]? = some (.cells cur 39 fr)) (hs : ∀ p ∈ ps, p.2.2.size ≤ 1000) (hpl : pl ≤ 1000) :
    Calls Try.prog 15 #[.pointer (some ⟨b, 0, none⟩), .slice pa pl pc] w fun x w' => x = .returned (.int .i64 (addN l ps : Nat)) ∧ Ck B w' b (addL l ps) ∧ BkW B w w' := by
  obtain ⟨v, h⟩ := h
  exact add_any pa pl pc ps w h hp hpc hpn hs hpl
end
/-- The document's bag in block b. -/
def Dk (B : Nat) (w : World) (b : Nat) (l : List Pk) : Prop := Okb l ∧ ∃ v u, Bd B w b v u (l.map pktOf) (l.map markOf)
section
variable {B b : Nat} {l : List Pk} {w w' : World}
theorem Dk.lt (h : Dk B w b l) : b < w.heap.size := by obtain ⟨_, v, u, h⟩ := h; exact h.lt
theorem Dk.lo (h : Dk B w b l) : B ≤ b := by obtain ⟨_, v, u, h⟩ := h; exact h.lo
theorem Dk.next (h : Dk B w b l) (hb : Below w.heap.size w w') : Dk B w' b l := by obtain ⟨o, v, u, h⟩ := h; exact ⟨o, v, u, h.next hb⟩
theorem Dk.asit (h : Dk B w b l) (e : w'.heap = w.heap) : Dk B w' b l := by obtain ⟨o, v, u, h⟩ := h; exact ⟨o, v, u, h.asit e⟩
theorem Dk.bkw (h : Dk B w b l) (hb : BkW B w w') : Dk B w' b l := by obtain ⟨o, v, u, h⟩ := h; exact ⟨o, v, u, h.bkw hb⟩
theorem Dk.lower {B' : Nat} (h : Dk B w b l) (hB : B' ≤ B) : Dk B' w b l := by obtain ⟨o, v, u, h⟩ := h; exact ⟨o, v, u, h.lower hB⟩
theorem Dk.typ (h : Dk B w b l) : ∃ cur, w.heap[b]? = some (.cells cur 29 (0, 0)) := by obtain ⟨_, v, u, h⟩ := h; exact ⟨_, h.blk⟩
theorem map_erase {α : Type} (f : Pk → α) (l : List Pk) (k : Nat) : (l.eraseIdx k).map f = (l.map f).eraseIdx k := by
  rw [List.eraseIdx_eq_take_drop_succ, List.eraseIdx_eq_take_drop_succ, List.map_append, List.map_take, List.map_drop]
theorem map_getD (l : List Pk) (k : Nat) : (l.map pktOf).getD k pk0 = pktOf (l.getD k pq0) := by
  simp only [List.getD_eq_getElem?_getD, List.getElem?_map]
  cases l[k]? <;> rfl
theorem map_getM (l : List Pk) (k : Nat) : (l.map markOf).getD k bo0 = markOf (l.getD k pq0) := by
  simp only [List.getD_eq_getElem?_getD, List.getElem?_map]
  cases l[k]? <;> rfl
theorem dk_take (i : Int) (h : Dk B w b l) : Calls Try.prog 21 #[.pointer (some ⟨b, 0, none⟩), .int .i64 i] w fun x w' => x = .returned (.tuple #[pv (atP l i), .bool (decide (inb l i))]) ∧ Dk B w' b (tkL l i) ∧ w.grownBy w' (some b) := by
  obtain ⟨o, v, u, h⟩ := h
  unfold atP tkL
  by_cases hi : inb l i
  · obtain ⟨k, rfl, hk, he⟩ := inb_nat hi
    rw [if_pos hi, if_pos hi, decide_eq_true hi, he, ← map_getD]
    exact (dtake_in k (by simpa using hk) (by simp) (by simpa using o.len) w h).mono fun _ _ ⟨h1, ⟨v', u', h2⟩, h3⟩ => ⟨h1, ⟨okb_erase o k, v', u', by rw [map_erase, map_erase]; exact h2⟩, h3⟩
  · rw [if_neg hi, if_neg hi, decide_eq_false hi]
    exact (dtake_out i (by simpa [inb] using hi) w h).mono fun _ _ ⟨h1, h2⟩ => ⟨h1, ⟨o, v, u, h.next h2⟩, grownOf _ h2⟩
theorem dk_twice (i : Int) (h : Dk B w b l) : Calls Try.prog 22 #[.pointer (some ⟨b, 0, none⟩), .int .i64 i] w fun x w' => x = .returned (.int .i64 (twE l i)) ∧ Dk B w' b (twL l i) ∧ w.grownBy w' (some b) := by
  obtain ⟨o, v, u, h⟩ := h
  unfold twL twE
  by_cases hi : inb l i
  · obtain ⟨k, rfl, hk, he⟩ := inb_nat hi
    rw [if_pos hi, he]
    by_cases hf : l.length = 4096
    · rw [if_pos hf, if_neg (by decide)]
      exact (dtwice_full k (by simpa using hk) (by simpa using hf) w h).mono fun _ _ ⟨h1, h2⟩ => ⟨h1, by rw [h2]; exact ⟨o, v, u, h⟩, by rw [h2]; exact World.grownBy.refl _ _⟩
    · rw [if_neg hf, if_pos rfl]
      refine (dtwice_ok k (by simpa using hk) (by have := o.len; simp; omega) (by simp) w h).mono fun _ _ ⟨h1, ⟨v', u', h2⟩, h3⟩ => ⟨h1, ⟨okb_app o (by have := o.len; omega) (o.sh _ (getD_mem hk)), v', u', ?_⟩, h3⟩
      rw [map_getD, map_getM] at h2
      simpa using h2
  · rw [if_neg hi, if_neg (by decide)]
    exact (dtwice_none i (by simpa [inb] using hi) w h).mono fun _ _ ⟨h1, h2⟩ => ⟨h1, by rw [h2]; exact ⟨o, v, u, h⟩, by rw [h2]; exact World.grownBy.refl _ _⟩
theorem map_spoil {k : Nat} (bit : Int) (m : Nat) : (spoilL l k bit m).map pktOf = (l.map pktOf).set k ((pktOf (l.getD k pq0)).1, (pktOf (l.getD k pq0)).2.1, flp (pktOf (l.getD k pq0)).2.2 bit m) ∧ (spoilL l k bit m).map markOf = (l.map markOf).set k true := by
  unfold spoilL
  rw [List.map_set, List.map_set]
  exact ⟨rfl, rfl⟩
theorem dk_spoil (i bit : Int) (m : Nat) (hm : m < 4294967296) (h : Dk B w b l) : Calls Try.prog 23 #[.pointer (some ⟨b, 0, none⟩), .int .i64 i, .int .i64 bit, .int .u32 (m : Int)] w fun x w' => x = .returned (.int .i64 (spE l i)) ∧ Dk B w' b (spL l i bit m) ∧ w.grownBy w' (some b) := by
  obtain ⟨o, v, u, h⟩ := h
  unfold spL spE
  by_cases hi : inb l i
  · obtain ⟨k, rfl, hk, he⟩ := inb_nat hi
    rw [if_pos hi, he]
    cases hf : markOf (l.getD k pq0) with
    | true =>
      rw [if_pos rfl, if_neg (by decide)]
      exact (dspoil_twice k (by simpa using hk) (by simp) (by rw [map_getM]; exact hf) bit m w h).mono fun _ _ ⟨h1, h2⟩ => ⟨h1, by rw [h2]; exact ⟨o, v, u, h⟩, by rw [h2]; exact World.grownBy.refl _ _⟩
    | false =>
      rw [if_neg (by decide), if_pos rfl]
      have hlen : (l.map pktOf).length ≤ 4096 := by simpa using o.len
      have hms : (l.map markOf).length = (l.map pktOf).length := by simp
      have hk' : k < (l.map pktOf).length := by simpa using hk
      have hmk : (l.map markOf).getD k bo0 = false := by rw [map_getM]; exact hf
      obtain ⟨e1, e2⟩ := map_spoil (l := l) (k := k) bit m
      have hsz : (pktOf (l.getD k pq0)).2.2.size ≤ 1000 := o.sh _ (getD_mem hk)
      have hp := map_getD l k
      have fin : ∀ w', (∃ v' u', Bd B w' b v' u' ((l.map pktOf).set k ((pktOf (l.getD k pq0)).1, (pktOf (l.getD k pq0)).2.1, flp (pktOf (l.getD k pq0)).2.2 bit m)) ((l.map markOf).set k true)) → Dk B w' b (spoilL l k bit m) := fun w' ⟨v', u', h2⟩ => ⟨okb_spoil o hk bit m, v', u', by rw [e1, e2]; exact h2⟩
      by_cases b1 : -32 ≤ bit
      · by_cases b2 : bit < 8 * ((pktOf (l.getD k pq0)).2.2.size : Int)
        · exact (dspoil_flip k hk' hlen hms hmk _ _ _ hp hsz bit m hm b1 b2 w h).mono fun _ w' ⟨h1, h2, h3⟩ => ⟨h1, fin w' h2, h3⟩
        · rw [flp_out (.inr (by omega))] at fin
          exact (dspoil_high k hk' hlen hms hmk _ _ _ hp hsz bit m b1 b2 w h).mono fun _ w' ⟨h1, h2, h3⟩ => ⟨h1, fin w' h2, h3⟩
      · rw [flp_out (.inl (by omega))] at fin
        exact (dspoil_low k hk' hlen hms hmk _ _ _ hp bit m b1 w h).mono fun _ w' ⟨h1, h2, h3⟩ => ⟨h1, fin w' h2, h3⟩
  · rw [if_neg hi, if_neg (by decide)]
    exact (dspoil_none i (by simpa [inb] using hi) bit m w h).mono fun _ _ ⟨h1, h2⟩ => ⟨h1, by rw [h2]; exact ⟨o, v, u, h⟩, by rw [h2]; exact World.grownBy.refl _ _⟩
theorem okb_add (o : Okb l) (ps : List Pkt) (hs : ∀ p ∈ ps, p.2.2.size ≤ 1000) : Okb (addL l ps) := ⟨by
  unfold addL
  rw [List.length_append, List.length_map, List.length_take]
  have := o.len
  unfold addN
  omega, fun p hp => by
  rcases List.mem_append.1 hp with hp | hp
  · exact o.sh p hp
  · obtain ⟨q, hq, rfl⟩ := List.mem_map.1 hp
    exact hs q (List.mem_of_mem_take hq)⟩
theorem dk_add (pa : Option Addr) (pl pc : Nat) (ps : List Pkt) (h : Dk B w b l) (hp : PsAt w pa pl ps) (hpn : 0 < pl → ∀ g off, pa = some ⟨g, off, none⟩ → g ≠ b) (hs : ∀ p ∈ ps, p.2.2.size ≤ 1000) (hpl : pl ≤ 1000) :
    Calls Try.prog 20 #[.pointer (some ⟨b, 0, none⟩), .slice pa pl pc] w fun x w' => x = .returned (.int .i64 (addN l ps : Nat)) ∧ Dk B w' b (addL l ps) ∧ w.grownBy w' (some b) := by
  obtain ⟨o, v, u, h⟩ := h
  have hl : (l.map pktOf).length = l.length := by simp
  refine (dadd_any pa pl pc ps w h hp hpn (by simpa using o.len) (by simpa using o.len) hpl).mono fun _ w' ⟨h1, ⟨v', u', h2⟩, h3⟩ => ⟨by rw [hl] at h1; exact h1, ⟨okb_add o ps hs, v', u', ?_⟩, h3⟩
  rw [hl] at h2
  have e1 : (addL l ps).map pktOf = l.map pktOf ++ ps.take (min ps.length (4096 - l.length)) := by
    unfold addL addN
    rw [List.map_append, List.map_map]
    congr 1
    exact (List.map_congr_left (fun p _ => rfl)).trans (List.map_id _)
  have e2 : (addL l ps).map markOf = l.map markOf ++ List.replicate (min ps.length (4096 - l.length)) false := by
    unfold addL addN
    rw [List.map_append, List.map_map]
    congr 1
    apply List.ext_getElem?
    intro j
    simp only [List.getElem?_map, List.getElem?_replicate, List.getElem?_take]
    by_cases hj : j < min ps.length (4096 - l.length)
    · rw [if_pos hj, if_pos hj]
      simp [show j < ps.length by omega]
      rfl
    · rw [if_neg hj, if_neg hj]; rfl
  rw [e1, e2]
  exact h2
end
end Go.Proofs.Ytjnjpphbclepbaa
