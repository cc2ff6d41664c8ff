/- Plain mathematics: rounds: whether one may be, its bytes, what is got. -/
import Derived.Test.YtcknklodnfabpaaDoorB3
namespace Go.Proofs.YtcknklodnfabpaaDoor
open Go
/-- The first error among updates. -/
def mayL : List Up → Int
  | [] => 0
  | u :: l => if mayE u = 0 then mayL l else mayE u
theorem mayL_step (us : List Up) (k : Nat) (h : k < us.length) : mayL (us.drop k) = if mayE (us.getD k up0) = 0 then mayL (us.drop (k + 1)) else mayE (us.getD k up0) := by
  rw [List.drop_eq_getElem_cons h, List.getD_eq_getElem?_getD, List.getElem?_eq_getElem h]
  rfl
theorem mayL_end (us : List Up) : mayL (us.drop us.length) = 0 := by rw [List.drop_length]; rfl
theorem mayL_zero : ∀ (us : List Up), mayL us = 0 → ∀ i, i < us.length → mayE (us.getD i up0) = 0
  | [], _, i, h => absurd h (by simp)
  | u :: l, h0, 0, _ => by
    unfold mayL at h0
    split at h0
    · assumption
    · exact absurd h0 ‹_›
  | u :: l, h0, i + 1, h => by
    unfold mayL at h0
    split at h0
    · exact mayL_zero l h0 i (by simpa using h)
    · exact absurd h0 ‹_›
theorem mayL_of : ∀ (us : List Up), (∀ i, i < us.length → mayE (us.getD i up0) = 0) → mayL us = 0
  | [], _ => rfl
  | u :: l, h => by
    unfold mayL
    rw [if_pos (show mayE u = 0 from h 0 (by simp))]
    exact mayL_of l fun i hi => h (i + 1) (by simpa using hi)
/-- Are a round's numbers so? -/
def headOk (o n : Int) (k : Nat) : Prop := 1 ≤ o ∧ o ≤ 64 ∧ 1 ≤ n ∧ n ≤ 1099511627776 ∧ 1 ≤ k ∧ k ≤ 8
instance (o n : Int) (k : Nat) : Decidable (headOk o n k) := by unfold headOk; infer_instance
def mayR (o n : Int) (us : List Up) : Int := if headOk o n us.length then mayL us else 1
theorem mayR_yes {o n : Int} {us : List Up} (h : headOk o n us.length) : mayR o n us = mayL us := if_pos h
theorem mayR_no {o n : Int} {us : List Up} (h : ¬ headOk o n us.length) : mayR o n us = 1 := if_neg h
theorem mayR_zero {o n : Int} {us : List Up} (h : mayR o n us = 0) : headOk o n us.length ∧ mayL us = 0 := by
  unfold mayR at h
  split at h
  · exact ⟨‹_›, h⟩
  · exact absurd h (by decide)
/-- A round's bytes. -/
def pxH (o n : Int) (k : Nat) : ByteArray := pxN o ++ pxN n ++ pxN (k : Int)
def pxR (o n : Int) (us : List Up) : ByteArray := pxH o n us.length ++ catU us
def putR (o n : Int) (us : List Up) : ByteArray := if mayR o n us = 0 then pxR o n us else ⟨#[]⟩
theorem pxH_size (o n : Int) (k : Nat) : (pxH o n k).size ≤ 24 := by
  unfold pxH
  simp only [ByteArray.size_append]
  have := pxN_size o
  have := pxN_size n
  have := pxN_size (k : Int)
  omega
theorem catU_all (us : List Up) (h : mayL us = 0) : (catU us).size ≤ 52 * us.length := by
  induction us with
  | nil => show 0 ≤ _; omega
  | cons u l ih =>
    have h0 := mayL_zero _ h 0 (by simp)
    have h1 : mayL l = 0 := mayL_of l fun i hi => mayL_zero _ h (i + 1) (by simpa using hi)
    have := ih h1
    have := pxU_52 u h0
    unfold catU
    simp only [ByteArray.size_append, List.length_cons]
    omega
theorem pxR_size (o n : Int) (us : List Up) (h : mayR o n us = 0) : (pxR o n us).size ≤ 440 := by
  obtain ⟨h1, h2⟩ := mayR_zero h
  have := catU_all us h2
  have := pxH_size o n us.length
  unfold headOk at h1
  unfold pxR
  simp only [ByteArray.size_append]
  omega
/-- The error behind one of the three numbers: none may be 0. -/
def hdE (B : ByteArray) (At : Nat) (E m : Int) : Int := if numV B At E m = 0 then failE (numE B At E m) 1 else numE B At E m
theorem hdE_dead (B : ByteArray) (At : Nat) (E m : Int) (h : E ≠ 0) : numV B At E m = 0 ∧ hdE B At E m = E ∧ rawA B At E = At := by
  obtain ⟨a, b, c⟩ := dead_num B At E m h
  exact ⟨a, by unfold hdE; rw [if_pos a, b, failE_dead _ _ h], c⟩
theorem hdE_zero (B : ByteArray) (At : Nat) (m : Int) (hA : At ≤ B.size) (h : hdE B At 0 m = 0) : numE B At 0 m = 0 ∧ 0 < numV B At 0 m := by
  have hb := numV_bd B At 0 m hA
  unfold hdE at h
  split at h
  · unfold failE at h
    split at h
    · exact absurd h ‹_›
    · exact absurd h (by decide)
  · exact ⟨h, by omega⟩
theorem hdE_of (B : ByteArray) (At : Nat) (m : Int) (h1 : numE B At 0 m = 0) (h2 : numV B At 0 m ≠ 0) : hdE B At 0 m = 0 := by
  unfold hdE; rw [if_neg h2, h1]
theorem hdE_err (B : ByteArray) (At : Nat) (m : Int) (hA : At ≤ B.size) (h : numE B At 0 m ≠ 0) : hdE B At 0 m = numE B At 0 m := by
  unfold hdE; rw [if_pos (numE_zero B At 0 m hA h), failE_dead _ _ h]
/-- So many updates, one behind the other; the place behind; the error. -/
def updsR (B : ByteArray) : Nat → Nat → Int → List Up × Nat × Int
  | 0, A, E => ([], A, E)
  | k + 1, A, E => ((updsR B k A E).1 ++ [(updR B (updsR B k A E).2.1 (updsR B k A E).2.2).1], (updR B (updsR B k A E).2.1 (updsR B k A E).2.2).2)
theorem updsR_len (B : ByteArray) (k A : Nat) (E : Int) : (updsR B k A E).1.length = k := by
  induction k with
  | zero => rfl
  | succ k ih => simp [updsR, ih]
theorem updsR_le (B : ByteArray) (k A : Nat) (E : Int) (h : A ≤ B.size) : (updsR B k A E).2.1 ≤ B.size := by
  induction k with
  | zero => exact h
  | succ k ih => exact updA_le _ _ _ ih
theorem updR_dead (B : ByteArray) (At : Nat) (E : Int) (h : E ≠ 0) : updR B At E = (up0, At, E) := by
  obtain ⟨a, b, c⟩ := dead_num B At E 5 h
  have hc := UpdC.a (B := B) (At := At) (E := E) (by rw [b]; exact h)
  rw [updR_of hc, b, c]
theorem updsR_dead (B : ByteArray) (k A : Nat) (E : Int) (h : E ≠ 0) : (updsR B k A E).2 = (A, E) := by
  induction k with
  | zero => rfl
  | succ k ih =>
    show (updR B (updsR B k A E).2.1 (updsR B k A E).2.2).2 = _
    rw [ih, updR_dead B A E h]
/-- Once an error is there it stays. -/
theorem updsR_stays (B : ByteArray) (k j A : Nat) (E : Int) (h : (updsR B k A E).2.2 ≠ 0) (hj : k ≤ j) : (updsR B j A E).2.2 = (updsR B k A E).2.2 := by
  induction j with
  | zero => obtain rfl : k = 0 := by omega
            rfl
  | succ j ih =>
    rcases Nat.lt_or_ge k (j + 1) with hx | hx
    · have e := ih (by omega)
      show (updR B (updsR B j A E).2.1 (updsR B j A E).2.2).2.2 = _
      rw [updR_dead _ _ _ (by rw [e]; exact h), e]
    · obtain rfl : k = j + 1 := by omega
      rfl
/-- What Get makes. -/
structure GetW where
  o : Int
  n : Int
  k : Int
  us : List Up
  E : Int
def a1 (s : ByteArray) : Nat := rawA s 0 0
def e1 (s : ByteArray) : Int := hdE s 0 0 64
def a2 (s : ByteArray) : Nat := rawA s (a1 s) (e1 s)
def e2 (s : ByteArray) : Int := hdE s (a1 s) (e1 s) 1099511627776
def a3 (s : ByteArray) : Nat := rawA s (a2 s) (e2 s)
def e3 (s : ByteArray) : Int := hdE s (a2 s) (e2 s) 8
def k3 (s : ByteArray) : Nat := (numV s (a2 s) (e2 s) 8).toNat
def getUs (s : ByteArray) : List Up × Nat × Int := updsR s (k3 s) (a3 s) (e3 s)
def geE (s : ByteArray) : Int := endE s (getUs s).2.1 (getUs s).2.2
def geO (s : ByteArray) : Int := if geE s ≠ 0 then 0 else numV s 0 0 64
def geN (s : ByteArray) : Int := if geE s ≠ 0 then 0 else numV s (a1 s) (e1 s) 1099511627776
def geL (s : ByteArray) : List Up := if geE s ≠ 0 then [] else (getUs s).1
theorem a1_le (s : ByteArray) : a1 s ≤ s.size := rawA_le _ _ _ (Nat.zero_le _)
theorem a2_le (s : ByteArray) : a2 s ≤ s.size := rawA_le _ _ _ (a1_le s)
theorem a3_le (s : ByteArray) : a3 s ≤ s.size := rawA_le _ _ _ (a2_le s)
theorem bd64 : bd 64 = 64 := by decide
theorem bd8 : bd 8 = 8 := by decide
theorem bd40 : bd 1099511627776 = 1099511627776 := by decide
theorem k3_le (s : ByteArray) : numV s (a2 s) (e2 s) 8 = (k3 s : Int) ∧ k3 s ≤ 8 := by
  have hb := numV_bd s (a2 s) (e2 s) 8 (a2_le s)
  have h8 := bd8
  unfold k3
  rcases num3 s (a2 s) (e2 s) 8 (a2_le s) with ⟨_, _, e, _⟩ | ⟨_, _, e, _⟩ | ⟨_, h2, e, _⟩ <;> omega
theorem endE_dead (B : ByteArray) (At : Nat) (E : Int) (h : E ≠ 0) : endE B At E = E := if_pos h
/-- An error ahead is what is told. -/
theorem geE_1 (s : ByteArray) (h : e1 s ≠ 0) : geE s = e1 s := by
  obtain ⟨_, h2, _⟩ := hdE_dead s (a1 s) _ 1099511627776 h
  have h2 : e2 s = e1 s := h2
  obtain ⟨h3, h4, _⟩ := hdE_dead s (a2 s) (e2 s) 8 (by rw [h2]; exact h)
  have h4 : e3 s = e2 s := h4
  unfold geE getUs
  rw [updsR_dead _ _ _ _ (by rw [h4, h2]; exact h), endE_dead _ _ _ (by show e3 s ≠ 0; rw [h4, h2]; exact h)]
  show e3 s = _
  rw [h4, h2]
theorem geE_2 (s : ByteArray) (h : e2 s ≠ 0) : geE s = e2 s := by
  obtain ⟨h3, h4, _⟩ := hdE_dead s (a2 s) (e2 s) 8 h
  have h4 : e3 s = e2 s := h4
  unfold geE getUs
  rw [updsR_dead _ _ _ _ (by rw [h4]; exact h), endE_dead _ _ _ (by show e3 s ≠ 0; rw [h4]; exact h)]
  exact h4
theorem geE_3 (s : ByteArray) (h : e3 s ≠ 0) : geE s = e3 s := by
  unfold geE getUs
  rw [updsR_dead _ _ _ _ h, endE_dead _ _ _ h]
theorem geE_4 (s : ByteArray) (j : Nat) (hj : j ≤ k3 s) (h : (updsR s j (a3 s) (e3 s)).2.2 ≠ 0) : geE s = (updsR s j (a3 s) (e3 s)).2.2 := by
  have e := updsR_stays s j (k3 s) (a3 s) (e3 s) h hj
  unfold geE getUs
  rw [endE_dead _ _ _ (by rw [e]; exact h), e]
end Go.Proofs.YtcknklodnfabpaaDoor
