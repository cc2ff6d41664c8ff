import Derived.Test.YtbbgibekplfacaaDoorI3
import Derived.Test.YtbbgibekplfacaaDoorB6
import Derived.Test.YtbbgibekplfacaaDoorB4
import Derived.Deep.QuietTactic
import Derived.BigQuiet
import Derived.Laws.OwnMore
/- Great and GreatAll of updates; updates one behind the other; a writer within a loop. -/
namespace Go.Proofs.YtbbgibekplfacaaDoor.X
open Go Go.RowKit
def catU : List Up → ByteArray
  | [] => ⟨#[]⟩
  | u :: l => pxU u ++ catU l
theorem catU_append (a b : List Up) : catU (a ++ b) = catU a ++ catU b := by
  induction a with
  | nil => simp only [List.nil_append, catU, emp_app]
  | cons x l ih => simp only [List.cons_append, catU, ih, ByteArray.append_assoc]
theorem catU_step (us : List Up) (k : Nat) (h : k < us.length) : catU (us.take (k + 1)) = catU (us.take k) ++ pxU (us.getD k up0) := by
  rw [utake_step us k h, catU_append]
  simp only [catU, app_empty]
theorem catU_split (us : List Up) (n k : Nat) (h : k < n) (hn : n ≤ us.length) : ∃ post, catU (us.take n) = catU (us.take k) ++ pxU (us.getD k up0) ++ post := by
  refine ⟨catU ((us.take n).drop (k + 1)), ?_⟩
  rw [← catU_step us k (by omega), ← catU_append]
  congr 1
  have e : us.take (k + 1) = (us.take n).take (k + 1) := by rw [List.take_take, Nat.min_eq_left (by omega)]
  rw [e, List.take_append_drop]
theorem catU_size (us : List Up) : ∀ n, n ≤ us.length → (∀ i, i < n → mayE (us.getD i up0) = 0) → (catU (us.take n)).size ≤ 100 * n
  | 0, _, _ => by simp only [List.take_zero, catU]; show 0 ≤ _; omega
  | n + 1, h, hm => by
    rw [catU_step us n (by omega), ByteArray.size_append]
    have h1 := catU_size us n (by omega) (fun i hi => hm i (by omega))
    have h2 := pxU_size _ (hm n (by omega))
    omega
/-- What is read at a place of updates that were written one behind the other. -/
theorem parts_read (us : List Up) (more : ByteArray) (n k : Nat) (h : k < n) (hn : n ≤ us.length) (hm : ∀ i, i < n → mayE (us.getD i up0) = 0) :
    updR (catU (us.take n) ++ more) (catU (us.take k)).size 0 = (us.getD k up0, (catU (us.take (k + 1))).size, 0) := by
  obtain ⟨post, hp⟩ := catU_split us n k h hn
  rw [hp, ByteArray.append_assoc, rd_u _ _ _ (hm k h), catU_step us k (by omega), ByteArray.size_append]
/-- The writer, within the first loop. -/
structure P1 (w wr : World) (bw : Nat) (s : ByteArray) : Prop where
  pos : 0 < w.heap.size
  lo : w.heap.size ≤ bw
  gat : ∃ v, Wr wr (bw + 1) bw v s false
  d : Wd wr
  bel : Below w.heap.size w wr
theorem P1.start {w w1 : World} (hd : Wd w) (hb : Below w.heap.size w w1) : P1 w (w1.alloc (.cells #[.slice none 0 0, .bool false] 117)) w1.heap.size ⟨#[]⟩ :=
  ⟨hd.pos, hb.size, ⟨_, wr_new w1⟩, (hd.below hb).alloc _, hb.alloc hb.size _⟩
theorem P1.below {w wr w' : World} {bw : Nat} {s : ByteArray} (h : P1 w wr bw s) (hb : Below wr.heap.size wr w') : P1 w w' bw s := by
  obtain ⟨v, hv⟩ := h.gat
  exact ⟨h.pos, h.lo, ⟨v, hv.below hb⟩, h.d.below hb, Below.next h.bel hb⟩
theorem P1.wrote {w wr w' : World} {bw : Nat} {s s' : ByteArray} (h : P1 w wr bw s) (hw : ∃ v, Wr w' (bw + 1) bw v s' false) (hf : Fr (bw + 1) bw wr w') : P1 w w' bw s' :=
  have h0 := h.pos
  have h1 := h.lo
  ⟨h.pos, h.lo, hw, h.d.fr hf (by omega) (by omega), Fr.below h.bel hf h.lo (by omega)⟩
theorem undrew {w w' : World} {row : Option Nat} (h : w.drew.grownBy w' row) : w.grownBy w' row := ⟨h.os, h.tape, h.output, h.size, h.block⟩
theorem row_cells {w wr : World} {b off k : Nat} {us : List Up} {uk ut : ByteArray} {ux un : Int} (hu : us.getD k up0 = (uk, ux, un, ut)) (hf : Us w b off us) (hl : b < w.heap.size) (hk : k < us.length) (hb : Below w.heap.size w wr) : wr.cell? ⟨b, off + k * 4, none⟩ = some (.string uk) ∧ wr.cell? ⟨b, off + k * 4 + 1, none⟩ = some (.int .i64 ux) ∧ wr.cell? ⟨b, off + k * 4 + 2, none⟩ = some (.int .i64 un) ∧ wr.cell? ⟨b, off + k * 4 + 3, none⟩ = some (.string ut) := by
  have h0 := (hb.cell hl).trans (hf.key k hk)
  have h1 := (hb.cell hl).trans (hf.k k hk)
  have h2 := (hb.cell hl).trans (hf.n k hk)
  have h3 := (hb.cell hl).trans (hf.t k hk)
  rw [hu] at h0 h1 h2 h3
  exact ⟨h0, h1, h2, h3⟩
theorem wrap_small {x : Int} (h0 : 0 ≤ x) (h1 : x ≤ 1000000) : IntKind.i64.wrap x = x := by
  first
    | (show wrap64 x = x; unfold wrap64; omega)
    | (simp [IntKind.wrap, IntKind.bits]; omega)
    | (unfold IntKind.wrap; simp [IntKind.bits, IntKind.signed]; omega)
end Go.Proofs.YtbbgibekplfacaaDoor.X
/- Plain mathematics: rounds: whether one may be, its bytes, what is got. -/
namespace Go.Proofs.YtbbgibekplfacaaDoor.X
open Go
/-- A round's bytes. -/
def pxH (o n : Int) (k : Nat) : ByteArray := pxN o ++ pxN n ++ pxN (k : Int)
def pxR (o n : Int) (us : List Up) : ByteArray := pxH o n us.length ++ catU us
def putR (o n : Int) (us : List Up) : ByteArray := if mayR o n us = 0 then pxR o n us else ⟨#[]⟩
theorem pxH_size (o n : Int) (k : Nat) : (pxH o n k).size ≤ 24 := by
  unfold pxH
  simp only [ByteArray.size_append]
  have := pxN_size o
  have := pxN_size n
  have := pxN_size (k : Int)
  omega
theorem catU_all (us : List Up) (h : mayL us = 0) : (catU us).size ≤ 52 * us.length := by
  induction us with
  | nil => show 0 ≤ _; omega
  | cons u l ih =>
    have h0 := mayL_zero _ h 0 (by simp)
    have h1 : mayL l = 0 := mayL_of l fun i hi => mayL_zero _ h (i + 1) (by simpa using hi)
    have := ih h1
    have := pxU_52 u h0
    unfold catU
    simp only [ByteArray.size_append, List.length_cons]
    omega
theorem pxR_size (o n : Int) (us : List Up) (h : mayR o n us = 0) : (pxR o n us).size ≤ 440 := by
  obtain ⟨h1, h2⟩ := mayR_zero h
  have := catU_all us h2
  have := pxH_size o n us.length
  unfold headOk at h1
  unfold pxR
  simp only [ByteArray.size_append]
  omega
/-- The error behind one of the three numbers: none may be 0. -/
def hdE (B : ByteArray) (At : Nat) (E m : Int) : Int := if numV B At E m = 0 then failE (numE B At E m) 1 else numE B At E m
theorem hdE_dead (B : ByteArray) (At : Nat) (E m : Int) (h : E ≠ 0) : numV B At E m = 0 ∧ hdE B At E m = E ∧ rawA B At E = At := by
  obtain ⟨a, b, c⟩ := dead_num B At E m h
  exact ⟨a, by unfold hdE; rw [if_pos a, b, failE_dead _ _ h], c⟩
theorem hdE_zero (B : ByteArray) (At : Nat) (m : Int) (hA : At ≤ B.size) (h : hdE B At 0 m = 0) : numE B At 0 m = 0 ∧ 0 < numV B At 0 m := by
  have hb := numV_bd B At 0 m hA
  unfold hdE at h
  split at h
  · unfold failE at h
    split at h
    · exact absurd h ‹_›
    · exact absurd h (by decide)
  · exact ⟨h, by omega⟩
theorem hdE_of (B : ByteArray) (At : Nat) (m : Int) (h1 : numE B At 0 m = 0) (h2 : numV B At 0 m ≠ 0) : hdE B At 0 m = 0 := by
  unfold hdE; rw [if_neg h2, h1]
theorem hdE_err (B : ByteArray) (At : Nat) (m : Int) (hA : At ≤ B.size) (h : numE B At 0 m ≠ 0) : hdE B At 0 m = numE B At 0 m := by
  unfold hdE; rw [if_pos (numE_zero B At 0 m hA h), failE_dead _ _ h]
/-- So many updates, one behind the other; the place behind; the error. -/
def updsR (B : ByteArray) : Nat → Nat → Int → List Up × Nat × Int
  | 0, A, E => ([], A, E)
  | k + 1, A, E => ((updsR B k A E).1 ++ [(updR B (updsR B k A E).2.1 (updsR B k A E).2.2).1], (updR B (updsR B k A E).2.1 (updsR B k A E).2.2).2)
theorem updsR_len (B : ByteArray) (k A : Nat) (E : Int) : (updsR B k A E).1.length = k := by
  induction k with
  | zero => rfl
  | succ k ih => simp [updsR, ih]
theorem updsR_le (B : ByteArray) (k A : Nat) (E : Int) (h : A ≤ B.size) : (updsR B k A E).2.1 ≤ B.size := by
  induction k with
  | zero => exact h
  | succ k ih => exact updA_le _ _ _ ih
theorem updR_dead (B : ByteArray) (At : Nat) (E : Int) (h : E ≠ 0) : updR B At E = (up0, At, E) := by
  obtain ⟨a, b, c⟩ := dead_num B At E 5 h
  have hc := UpdC.a (B := B) (At := At) (E := E) (by rw [b]; exact h)
  rw [updR_of hc, b, c]
theorem updsR_dead (B : ByteArray) (k A : Nat) (E : Int) (h : E ≠ 0) : (updsR B k A E).2 = (A, E) := by
  induction k with
  | zero => rfl
  | succ k ih =>
    show (updR B (updsR B k A E).2.1 (updsR B k A E).2.2).2 = _
    rw [ih, updR_dead B A E h]
/-- Once an error is there it stays. -/
theorem updsR_stays (B : ByteArray) (k j A : Nat) (E : Int) (h : (updsR B k A E).2.2 ≠ 0) (hj : k ≤ j) : (updsR B j A E).2.2 = (updsR B k A E).2.2 := by
  induction j with
  | zero => obtain rfl : k = 0 := by omega
            rfl
  | succ j ih =>
    rcases Nat.lt_or_ge k (j + 1) with hx | hx
    · have e := ih (by omega)
      show (updR B (updsR B j A E).2.1 (updsR B j A E).2.2).2.2 = _
      rw [updR_dead _ _ _ (by rw [e]; exact h), e]
    · obtain rfl : k = j + 1 := by omega
      rfl
/-- What Get makes. -/
structure GetW where
  o : Int
  n : Int
  k : Int
  us : List Up
  E : Int
def a1 (s : ByteArray) : Nat := rawA s 0 0
def e1 (s : ByteArray) : Int := hdE s 0 0 64
def a2 (s : ByteArray) : Nat := rawA s (a1 s) (e1 s)
def e2 (s : ByteArray) : Int := hdE s (a1 s) (e1 s) 1099511627776
def a3 (s : ByteArray) : Nat := rawA s (a2 s) (e2 s)
def e3 (s : ByteArray) : Int := hdE s (a2 s) (e2 s) 8
def k3 (s : ByteArray) : Nat := (numV s (a2 s) (e2 s) 8).toNat
def getUs (s : ByteArray) : List Up × Nat × Int := updsR s (k3 s) (a3 s) (e3 s)
def geE (s : ByteArray) : Int := endE s (getUs s).2.1 (getUs s).2.2
def geO (s : ByteArray) : Int := if geE s ≠ 0 then 0 else numV s 0 0 64
def geN (s : ByteArray) : Int := if geE s ≠ 0 then 0 else numV s (a1 s) (e1 s) 1099511627776
def geL (s : ByteArray) : List Up := if geE s ≠ 0 then [] else (getUs s).1
theorem a1_le (s : ByteArray) : a1 s ≤ s.size := rawA_le _ _ _ (Nat.zero_le _)
theorem a2_le (s : ByteArray) : a2 s ≤ s.size := rawA_le _ _ _ (a1_le s)
theorem a3_le (s : ByteArray) : a3 s ≤ s.size := rawA_le _ _ _ (a2_le s)
theorem bd64 : bd 64 = 64 := by decide
theorem bd8 : bd 8 = 8 := by decide
theorem bd40 : bd 1099511627776 = 1099511627776 := by decide
theorem k3_le (s : ByteArray) : numV s (a2 s) (e2 s) 8 = (k3 s : Int) ∧ k3 s ≤ 8 := by
  have hb := numV_bd s (a2 s) (e2 s) 8 (a2_le s)
  have h8 := bd8
  unfold k3
  rcases num3 s (a2 s) (e2 s) 8 (a2_le s) with ⟨_, _, e, _⟩ | ⟨_, _, e, _⟩ | ⟨_, h2, e, _⟩ <;> omega
theorem endE_dead (B : ByteArray) (At : Nat) (E : Int) (h : E ≠ 0) : endE B At E = E := if_pos h
/-- An error ahead is what is told. -/
theorem geE_1 (s : ByteArray) (h : e1 s ≠ 0) : geE s = e1 s := by
  obtain ⟨_, h2, _⟩ := hdE_dead s (a1 s) _ 1099511627776 h
  have h2 : e2 s = e1 s := h2
  obtain ⟨h3, h4, _⟩ := hdE_dead s (a2 s) (e2 s) 8 (by rw [h2]; exact h)
  have h4 : e3 s = e2 s := h4
  unfold geE getUs
  rw [updsR_dead _ _ _ _ (by rw [h4, h2]; exact h), endE_dead _ _ _ (by show e3 s ≠ 0; rw [h4, h2]; exact h)]
  show e3 s = _
  rw [h4, h2]
theorem geE_2 (s : ByteArray) (h : e2 s ≠ 0) : geE s = e2 s := by
  obtain ⟨h3, h4, _⟩ := hdE_dead s (a2 s) (e2 s) 8 h
  have h4 : e3 s = e2 s := h4
  unfold geE getUs
  rw [updsR_dead _ _ _ _ (by rw [h4]; exact h), endE_dead _ _ _ (by show e3 s ≠ 0; rw [h4]; exact h)]
  exact h4
theorem geE_3 (s : ByteArray) (h : e3 s ≠ 0) : geE s = e3 s := by
  unfold geE getUs
  rw [updsR_dead _ _ _ _ h, endE_dead _ _ _ h]
theorem geE_4 (s : ByteArray) (j : Nat) (hj : j ≤ k3 s) (h : (updsR s j (a3 s) (e3 s)).2.2 ≠ 0) : geE s = (updsR s j (a3 s) (e3 s)).2.2 := by
  have e := updsR_stays s j (k3 s) (a3 s) (e3 s) h hj
  unfold geE getUs
  rw [endE_dead _ _ _ (by rw [e]; exact h), e]
end Go.Proofs.YtbbgibekplfacaaDoor.X
/- A round's block; a row of updates that the call made. -/
namespace Go.Proofs.YtbbgibekplfacaaDoor.X
open Go Go.RowKit
section
variable {w w' : World} {b : Nat} {o n : Int} {a : Option Addr} {len cap : Nat}
end
section
variable {w w' : World} {g : Nat} {us : List Up}
end
end Go.Proofs.YtbbgibekplfacaaDoor.X
/- within, May, the document's May and Great. -/
namespace Go.Proofs.YtbbgibekplfacaaDoor.X
open Go Go.RowKit
end Go.Proofs.YtbbgibekplfacaaDoor.X
/- The document's May and Great. -/
namespace Go.Proofs.YtbbgibekplfacaaDoor.X
open Go Go.RowKit
/-- Is a round more than is played? -/
def gR (us : List Up) : Prop := 20 < us.length ∨ gAll us.length us
set_option maxHeartbeats 1000000 in
theorem greatR_yes (o n : Int) (a : Option Addr) (len cap : Nat) (us : List Up) (hg : gR us) (w : World) (hu : IsUs w a len us) :
    Calls Tryd.prog 28 #[.agg #[.int .i64 o, .int .i64 n, .slice a len cap]] w fun x w' => x = .returned (.bool true) ∧ Below w.heap.size w w' := by
  have hr := Rb.new w o n a len cap
  have c2 := hr.c2
  have hsz := hu.size
  have hB := Joins.below_alloc1 w (.cells #[.int .i64 o, .int .i64 n, .slice a len cap] 35)
  have hu1 := isUs_below hu hB
  by_cases hl : 20 < len
  · have q : decide ((20 : Int) < (len : Int)) = true := decide_eq_true (by omega)
    have HB := Lib.hid hB
    clear hr hu hg hB hu1 hl hsz
    go_enter Tryd.func28, Tryd.ntmps28
    go_wp2
    go_ret
    exact ⟨rfl, HB.out⟩
  · have q : decide ((20 : Int) < (len : Int)) = false := decide_eq_false (by omega)
    have hg2 : gAll len us := by rcases hg with hx | hx; · omega
                                 · rw [hsz] at hx; exact hx
    have HG := fun w h => Lib.hid (greatAll_yes a len cap us hg2 w h)
    have HB := Lib.hid hB
    have HU := Lib.hid hu1
    clear hr hu hg hB hu1 hl hg2 hsz
    go_enter Tryd.func28, Tryd.ntmps28
    go_wp2_with fail
    refine (HG _ HU.out).out.mono ?_
    rintro x w1 ⟨rfl, hb⟩
    have HB1 := Lib.hid (Below.next HB.out hb)
    clear hb HB
    go_wp2
    go_ret
    exact ⟨rfl, HB1.out⟩
set_option maxHeartbeats 1000000 in
theorem greatR_no (o n : Int) (a : Option Addr) (len cap : Nat) (us : List Up) (hg : ¬ gR us) (w : World) (hu : IsUs w a len us) :
    Calls Tryd.prog 28 #[.agg #[.int .i64 o, .int .i64 n, .slice a len cap]] w fun x w' => x = .returned (.bool false) ∧ Below w.heap.size w w' := by
  have hr := Rb.new w o n a len cap
  have c2 := hr.c2
  have hsz := hu.size
  have hB := Joins.below_alloc1 w (.cells #[.int .i64 o, .int .i64 n, .slice a len cap] 35)
  have hu1 := isUs_below hu hB
  unfold gR at hg
  rw [hsz] at hg
  have hl : ¬ 20 < len := fun h => hg (.inl h)
  have q : decide ((20 : Int) < (len : Int)) = false := decide_eq_false (by omega)
  have hg2 : ¬ gAll len us := fun h => hg (.inr h)
  have HG := fun w h => Lib.hid (greatAll_no a len cap us hg2 w h)
  have HB := Lib.hid hB
  have HU := Lib.hid hu1
  clear hr hu hg hB hu1 hl hg2 hsz
  go_enter Tryd.func28, Tryd.ntmps28
  go_wp2_with fail
  refine (HG _ HU.out).out.mono ?_
  rintro x w1 ⟨rfl, hb⟩
  have HB1 := Lib.hid (Below.next HB.out hb)
  clear hb HB
  go_wp2
  go_ret
  exact ⟨rfl, HB1.out⟩
end Go.Proofs.YtbbgibekplfacaaDoor.X
