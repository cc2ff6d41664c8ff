/- Plain mathematics: updates one behind the other; how it stands within UpdateParts. -/
import Derived.Test.YtpdpmdbdnpemnaaDoorUGA
import Derived.Test.YtpdpmdbdnpemnaaDoorUN
namespace Go.Proofs.YtpdpmdbdnpemnaaDoor
open Go Go.RowKit
def catU : List Up → ByteArray
  | [] => ⟨#[]⟩
  | u :: l => pxU u ++ catU l
theorem catU_append (a b : List Up) : catU (a ++ b) = catU a ++ catU b := by
  induction a with
  | nil => simp only [List.nil_append, catU, emp_app]
  | cons x l ih => simp only [List.cons_append, catU, ih, ByteArray.append_assoc]
theorem utake_step (us : List Up) (k : Nat) (h : k < us.length) : us.take (k + 1) = us.take k ++ [us.getD k up0] := by
  rw [List.take_add_one, List.getElem?_eq_getElem h, List.getD_eq_getElem?_getD, List.getElem?_eq_getElem h]
  rfl
theorem catU_step (us : List Up) (k : Nat) (h : k < us.length) : catU (us.take (k + 1)) = catU (us.take k) ++ pxU (us.getD k up0) := by
  rw [utake_step us k h, catU_append]
  simp only [catU, app_empty]
theorem catU_split (us : List Up) (n k : Nat) (h : k < n) (hn : n ≤ us.length) : ∃ post, catU (us.take n) = catU (us.take k) ++ pxU (us.getD k up0) ++ post := by
  refine ⟨catU ((us.take n).drop (k + 1)), ?_⟩
  rw [← catU_step us k (by omega), ← catU_append]
  congr 1
  have e : us.take (k + 1) = (us.take n).take (k + 1) := by rw [List.take_take, Nat.min_eq_left (by omega)]
  rw [e, List.take_append_drop]
theorem catU_size (us : List Up) : ∀ n, n ≤ us.length → (∀ i, i < n → mayE (us.getD i up0) = 0) → (catU (us.take n)).size ≤ 100 * n
  | 0, _, _ => by simp only [List.take_zero, catU]; show 0 ≤ _; omega
  | n + 1, h, hm => by
    rw [catU_step us n (by omega), ByteArray.size_append]
    have h1 := catU_size us n (by omega) (fun i hi => hm i (by omega))
    have h2 := pxU_size _ (hm n (by omega))
    omega
/-- What is read at a place of updates that were written one behind the other. -/
theorem parts_read (us : List Up) (more : ByteArray) (n k : Nat) (h : k < n) (hn : n ≤ us.length) (hm : ∀ i, i < n → mayE (us.getD i up0) = 0) :
    updR (catU (us.take n) ++ more) (catU (us.take k)).size 0 = (us.getD k up0, (catU (us.take (k + 1))).size, 0) := by
  obtain ⟨post, hp⟩ := catU_split us n k h hn
  rw [hp, ByteArray.append_assoc, rd_u _ _ _ (hm k h), catU_step us k (by omega), ByteArray.size_append]
/-- The writer, within the first loop. -/
structure P1 (w wr : World) (bw : Nat) (s : ByteArray) : Prop where
  pos : 0 < w.heap.size
  lo : w.heap.size ≤ bw
  gat : ∃ v, Wr wr (bw + 1) bw v s false
  d : Wd wr
  bel : Below w.heap.size w wr
theorem P1.start {w w1 : World} (hd : Wd w) (hb : Below w.heap.size w w1) : P1 w (w1.alloc (.cells #[.slice none 0 0, .bool false] 43)) w1.heap.size ⟨#[]⟩ :=
  ⟨hd.pos, hb.size, ⟨_, wr_new w1⟩, (hd.below hb).alloc _, hb.alloc hb.size _⟩
theorem P1.below {w wr w' : World} {bw : Nat} {s : ByteArray} (h : P1 w wr bw s) (hb : Below wr.heap.size wr w') : P1 w w' bw s := by
  obtain ⟨v, hv⟩ := h.gat
  exact ⟨h.pos, h.lo, ⟨v, hv.below hb⟩, h.d.below hb, Below.next h.bel hb⟩
theorem P1.wrote {w wr w' : World} {bw : Nat} {s s' : ByteArray} (h : P1 w wr bw s) (hw : ∃ v, Wr w' (bw + 1) bw v s' false) (hf : Fr (bw + 1) bw wr w') : P1 w w' bw s' :=
  have h0 := h.pos
  have h1 := h.lo
  ⟨h.pos, h.lo, hw, h.d.fr hf (by omega) (by omega), Fr.below h.bel hf h.lo (by omega)⟩
/-- Both readers, within the second loop. -/
structure P2 (w wr : World) (r m : Nat) (B : ByteArray) (At : Nat) (E : Int) : Prop where
  pos : 0 < w.heap.size
  lo : w.heap.size ≤ r
  ne : r < m
  le : At ≤ B.size
  rd : Rd wr r (rst B At E) E
  rm : Rm wr m B At E
  d : Wd wr
  bel : Below w.heap.size w wr
theorem rm_new (w : World) (s : ByteArray) : Rm (w.alloc (.cells #[.string s, .int .i64 0, .int .i64 0] 51)) w.heap.size s 0 0 := heap_alloc_new w _
theorem P2.start {w wr w' : World} {bw r : Nat} {s B : ByteArray} (h : P1 w wr bw s) (hr : wr.heap.size ≤ r) (hrd : Rd w' r (rst B 0 0) 0) (hb : Below wr.heap.size wr w') : P2 w (w'.alloc (.cells #[.string B, .int .i64 0, .int .i64 0] 51)) r w'.heap.size B 0 0 :=
  have hB := Below.next h.bel hb
  have h1 := h.bel.size
  ⟨h.pos, by omega, hrd.lt, Nat.zero_le _, hrd.alloc _, rm_new w' B, (h.d.below hb).alloc _, hB.alloc hB.size _⟩
/-- .. behind the first reader's read, and behind both. -/
structure P3 (w wr : World) (r m : Nat) (B : ByteArray) (At : Nat) (E : Int) (A' : Nat) (E' : Int) (p : Nat) (u : Up) : Prop where
  pos : 0 < w.heap.size
  lo : w.heap.size ≤ r
  ne : r < m
  mp : m < p
  le : A' ≤ B.size
  rd : Rd wr r (rst B A' E') E'
  rm : Rm wr m B At E
  ub : Ub wr p u
  d : Wd wr
  bel : Below w.heap.size w wr
theorem P2.read {w wr w' : World} {r m : Nat} {B : ByteArray} {At A' : Nat} {E E' : Int} (h : P2 w wr r m B At E) (hA : A' ≤ B.size) (hr : Rd w' r (rst B A' E') E') (hg : wr.grownBy w' (some r)) (u : Up) :
    P3 w (w'.alloc (.cells #[.string u.1, .int .i64 u.2.1, .int .i64 u.2.2.1, .string u.2.2.2] 23)) r m B At E A' E' w'.heap.size u :=
  have h0 := h.pos
  have h1 := h.lo
  have h2 := h.ne
  have hm := h.rm.kept hg (by simp; omega)
  have hB := h.bel.grown hg h.bel.size (fun k e => by simp at e; omega)
  ⟨h.pos, h.lo, h.ne, hm.lt, hA, hr.alloc _, hm.alloc _, Ub.new w' u, (h.d.grown hg (pos0 (by omega))).alloc _, hB.alloc hB.size _⟩
theorem P3.both {w wr w' : World} {r m : Nat} {B : ByteArray} {At A' : Nat} {E E' : Int} {p : Nat} {u : Up} (h : P3 w wr r m B At E A' E' p u) (hr : Rm w' m B A' E') (hg : wr.grownBy w' (some m)) :
    P2 w w' r m B A' E' ∧ Ub w' p u :=
  have h0 := h.pos
  have h1 := h.lo
  have h2 := h.ne
  have h3 := h.mp
  ⟨⟨h.pos, h.lo, h.ne, h.le, h.rd.kept hg (by simp; omega), hr, h.d.grown hg (pos0 (by omega)), h.bel.grown hg h.bel.size (fun k e => by simp at e; omega)⟩, h.ub.kept hg (by simp; omega)⟩
theorem Rd.drew {w : World} {b : Nat} {rest : ByteArray} {err : Int} (h : Rd w b rest err) : Rd w.drew b rest err := h
theorem Rm.drew {w : World} {b : Nat} {B : ByteArray} {At : Nat} {E : Int} (h : Rm w b B At E) : Rm w.drew b B At E := h
theorem undrew {w w' : World} {row : Option Nat} (h : w.drew.grownBy w' row) : w.grownBy w' row := ⟨h.os, h.tape, h.output, h.size, h.block⟩
theorem P2.drewN {w wr : World} {r m : Nat} {B : ByteArray} {At : Nat} {E : Int} (h : P2 w wr r m B At E) (n : Nat) : P2 w (wr.drewN n) r m B At E :=
  ⟨h.pos, h.lo, h.ne, h.le, h.rd, h.rm, ⟨h.d.c0, h.d.c1, h.d.c2, h.d.c3, h.d.pos⟩, ⟨h.bel.os, h.bel.tape, h.bel.output, h.bel.size, h.bel.block⟩⟩
theorem err_q (b : Nat) (rest : ByteArray) (err : Int) (w : World) (h : Rd w b rest err) : Calls Tryd.prog 22 #[.pointer (some ⟨b, 0, none⟩)] w fun x w' => x = .returned (.int .i64 err) ∧ w' = w :=
  (err_any b rest err w h).mono fun _ _ hx => ⟨hx.1, hx.2.symm⟩
/-- The cells of the row's next update. -/
theorem cells_of {w wr : World} {a : Option Addr} {len k : Nat} {us : List Up} (h : IsUs w a len us) (hb : Below w.heap.size w wr) (hk : k < len) : ∃ b off, a = some ⟨b, off, none⟩ ∧ b < w.heap.size ∧ wr.cell? ⟨b, off + k * 4, none⟩ = some (.string (us.getD k up0).1) ∧ wr.cell? ⟨b, off + k * 4 + 1, none⟩ = some (.int .i64 (us.getD k up0).2.1) ∧ wr.cell? ⟨b, off + k * 4 + 2, none⟩ = some (.int .i64 (us.getD k up0).2.2.1) ∧ wr.cell? ⟨b, off + k * 4 + 3, none⟩ = some (.string (us.getD k up0).2.2.2) := by
  obtain ⟨b, off, rfl, hf⟩ := h.lies (by omega)
  have hs := h.size
  have hl := hf.lt (by omega)
  exact ⟨b, off, rfl, hl, (hb.cell hl).trans (hf.key k (by omega)), (hb.cell hl).trans (hf.k k (by omega)), (hb.cell hl).trans (hf.n k (by omega)), (hb.cell hl).trans (hf.t k (by omega))⟩
theorem row_cells {w wr : World} {b off k : Nat} {us : List Up} {uk ut : ByteArray} {ux un : Int} (hu : us.getD k up0 = (uk, ux, un, ut)) (hf : Us w b off us) (hl : b < w.heap.size) (hk : k < us.length) (hb : Below w.heap.size w wr) : wr.cell? ⟨b, off + k * 4, none⟩ = some (.string uk) ∧ wr.cell? ⟨b, off + k * 4 + 1, none⟩ = some (.int .i64 ux) ∧ wr.cell? ⟨b, off + k * 4 + 2, none⟩ = some (.int .i64 un) ∧ wr.cell? ⟨b, off + k * 4 + 3, none⟩ = some (.string ut) := by
  have h0 := (hb.cell hl).trans (hf.key k hk)
  have h1 := (hb.cell hl).trans (hf.k k hk)
  have h2 := (hb.cell hl).trans (hf.n k hk)
  have h3 := (hb.cell hl).trans (hf.t k hk)
  rw [hu] at h0 h1 h2 h3
  exact ⟨h0, h1, h2, h3⟩
theorem wrap_small {x : Int} (h0 : 0 ≤ x) (h1 : x ≤ 1000000) : IntKind.i64.wrap x = x := by
  first
    | (show wrap64 x = x; unfold wrap64; omega)
    | (simp [IntKind.wrap, IntKind.bits]; omega)
    | (unfold IntKind.wrap; simp [IntKind.bits, IntKind.signed]; omega)
end Go.Proofs.YtpdpmdbdnpemnaaDoor
