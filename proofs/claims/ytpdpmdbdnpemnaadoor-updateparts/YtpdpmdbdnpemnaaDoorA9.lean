/- Plain mathematics of a reader over a text, a place and an error. Nothing of the program. -/
import Derived.Test.YtpdpmdbdnpemnaaDoorA6
namespace Go.Proofs.YtpdpmdbdnpemnaaDoor
open Go
/-- What stands at a place of a text stands at the front of its rest. -/
theorem get3 (B : ByteArray) (At : Nat) (h : At ≤ B.size) :
    (∃ e : Int, 1 ≤ e ∧ e ≤ 3 ∧ getS B At = (0, 0, e) ∧ getS (B.extract At B.size) 0 = (0, 0, e)) ∨
    ∃ (N : Int) (W : Nat), 1 ≤ W ∧ W ≤ 8 ∧ At + W ≤ B.size ∧ 0 ≤ N ∧ N < 4611686018427387904 ∧ getS B At = (N, ((At + W : Nat) : Int), 0) ∧ getS (B.extract At B.size) 0 = (N, (W : Int), 0) := by
  have hsz : (B.extract At B.size).size = B.size - At := by simp
  have hb : byt (B.extract At B.size) 0 = byt B At := by
    by_cases hA : At < B.size
    · exact byt_extract B At B.size 0 (Nat.le_refl _) (by omega)
    · rw [byt_end _ _ (by rw [hsz]; omega), byt_end _ _ (by omega)]
  have hw8 : 1 ≤ wid (byt B At) ∧ wid (byt B At) ≤ 8 := by rcases wid_cases (byt B At) with e | e | e | e <;> omega
  have e1 : getS B At = if B.size < At + wid (byt B At) then (0, 0, 2) else if un B At (wid (byt B At)) < lo (wid (byt B At)) then (0, 0, 3) else (un B At (wid (byt B At)), (At : Int) + wid (byt B At), 0) := by
    unfold getS
    rw [if_neg (by omega)]
    rfl
  have e2 : getS (B.extract At B.size) 0 = if B.size - At < wid (byt B At) then (0, 0, 2) else if un (B.extract At B.size) 0 (wid (byt B At)) < lo (wid (byt B At)) then (0, 0, 3) else (un (B.extract At B.size) 0 (wid (byt B At)), (wid (byt B At) : Int), 0) := by
    unfold getS
    rw [if_neg (by omega), show (0 : Int).toNat = 0 from rfl, hb, hsz]
    simp
  by_cases hs : B.size < At + wid (byt B At)
  · refine .inl ⟨2, by omega, by omega, ?_, ?_⟩
    · rw [e1, if_pos hs]
    · rw [e2, if_pos (by omega)]
  have hu : un (B.extract At B.size) 0 (wid (byt B At)) = un B At (wid (byt B At)) := un_extract B At B.size (Nat.le_refl _) _ (by omega)
  rw [hu] at e2
  by_cases hl : un B At (wid (byt B At)) < lo (wid (byt B At))
  · refine .inl ⟨3, by omega, by omega, ?_, ?_⟩
    · rw [e1, if_neg hs, if_pos hl]
    · rw [e2, if_neg (by omega), if_pos hl]
  · have hub := un_bd B At (wid (byt B At)) hw8.2
    refine .inr ⟨un B At (wid (byt B At)), wid (byt B At), hw8.1, hw8.2, by omega, hub.1, hub.2, ?_, ?_⟩
    · rw [e1, if_neg hs, if_neg hl]; simp
    · rw [e2, if_neg (by omega), if_neg hl]
/-- The rest of a reader: nothing, once it failed. -/
def rst (B : ByteArray) (At : Nat) (E : Int) : ByteArray := if E = 0 then B.extract At B.size else ⟨#[]⟩
theorem rst_live (B : ByteArray) (At : Nat) : rst B At 0 = B.extract At B.size := if_pos rfl
theorem rst_dead (B : ByteArray) (At : Nat) (E : Int) (h : E ≠ 0) : rst B At E = ⟨#[]⟩ := if_neg h
theorem rst_start (B : ByteArray) : rst B 0 0 = B := by rw [rst_live]; simp
def rawV (B : ByteArray) (At : Nat) (E : Int) : Int := if E ≠ 0 then 0 else (getS B At).1
def rawA (B : ByteArray) (At : Nat) (E : Int) : Nat := if E ≠ 0 then At else if (getS B At).2.2 = 0 then (getS B At).2.1.toNat else At
def rawE (B : ByteArray) (At : Nat) (E : Int) : Int := if E ≠ 0 then E else (getS B At).2.2
theorem raw_dead (B : ByteArray) (At : Nat) (E : Int) (h : E ≠ 0) : rawV B At E = 0 ∧ rawA B At E = At ∧ rawE B At E = E := ⟨if_pos h, if_pos h, if_pos h⟩
theorem raw_err (B : ByteArray) (At : Nat) (e : Int) (he : 1 ≤ e) (h : getS B At = (0, 0, e)) : rawV B At 0 = 0 ∧ rawA B At 0 = At ∧ rawE B At 0 = e := by
  refine ⟨?_, ?_, ?_⟩
  · unfold rawV; rw [if_neg (by simp), h]
  · unfold rawA; rw [if_neg (by simp), if_neg (by rw [h]; show e ≠ 0; omega)]
  · unfold rawE; rw [if_neg (by simp), h]
theorem raw_ok (B : ByteArray) (At : Nat) (N : Int) (next : Nat) (h : getS B At = (N, (next : Int), 0)) : rawV B At 0 = N ∧ rawA B At 0 = next ∧ rawE B At 0 = 0 := by
  refine ⟨?_, ?_, ?_⟩
  · unfold rawV; rw [if_neg (by simp), h]
  · unfold rawA; rw [if_neg (by simp), if_pos (by rw [h]), h]; simp
  · unfold rawE; rw [if_neg (by simp), h]
/-- How a reader stands, and what the next number there is: dead, an error, a number. -/
theorem raw3 (B : ByteArray) (At : Nat) (E : Int) (h : At ≤ B.size) :
    (E ≠ 0 ∧ rst B At E = ⟨#[]⟩ ∧ rawV B At E = 0 ∧ rawA B At E = At ∧ rawE B At E = E) ∨
    (E = 0 ∧ ∃ e : Int, 1 ≤ e ∧ e ≤ 3 ∧ getS B At = (0, 0, e) ∧ getS (B.extract At B.size) 0 = (0, 0, e) ∧ rst B At E = B.extract At B.size ∧ rawV B At E = 0 ∧ rawA B At E = At ∧ rawE B At E = e) ∨
    (E = 0 ∧ ∃ (N : Int) (W : Nat), 1 ≤ W ∧ W ≤ 8 ∧ At + W ≤ B.size ∧ 0 ≤ N ∧ N < 4611686018427387904 ∧ getS B At = (N, ((At + W : Nat) : Int), 0) ∧ getS (B.extract At B.size) 0 = (N, (W : Int), 0) ∧ rst B At E = B.extract At B.size ∧ rawV B At E = N ∧ rawA B At E = At + W ∧ rawE B At E = 0) := by
  by_cases hE : E ≠ 0
  · exact .inl ⟨hE, rst_dead B At E hE, raw_dead B At E hE⟩
  · obtain rfl : E = 0 := by omega
    rcases get3 B At h with ⟨e, h1, h3, ha, hb⟩ | ⟨N, W, h1, h2, h3, h4, h5, ha, hb⟩
    · exact .inr (.inl ⟨rfl, e, h1, h3, ha, hb, rst_live B At, raw_err B At e h1 ha⟩)
    · exact .inr (.inr ⟨rfl, N, W, h1, h2, h3, h4, h5, ha, hb, rst_live B At, raw_ok B At N _ ha⟩)
theorem rawA_le (B : ByteArray) (At : Nat) (E : Int) (h : At ≤ B.size) : rawA B At E ≤ B.size := by
  rcases raw3 B At E h with ⟨_, _, _, e, _⟩ | ⟨_, _, _, _, _, _, _, _, e, _⟩ | ⟨_, N, W, _, _, h3, _, _, _, _, _, _, e, _⟩ <;> omega
theorem rawV_bd (B : ByteArray) (At : Nat) (E : Int) (h : At ≤ B.size) : 0 ≤ rawV B At E ∧ rawV B At E < 4611686018427387904 := by
  rcases raw3 B At E h with ⟨_, _, e, _, _⟩ | ⟨_, _, _, _, _, _, _, e, _, _⟩ | ⟨_, N, W, _, _, h3, h4, h5, _, _, _, e, _, _⟩ <;> omega
/-- The bound that counts. -/
def bd (most : Int) : Int := if most < 0 then 0 else if 1152921504606846976 < most then 1152921504606846976 else most
theorem bd_bd (most : Int) : 0 ≤ bd most ∧ bd most ≤ 1152921504606846976 := by unfold bd; split <;> (try split) <;> omega
def numV (B : ByteArray) (At : Nat) (E most : Int) : Int := if rawE B At E ≠ 0 then 0 else if bd most < rawV B At E then 0 else rawV B At E
def numE (B : ByteArray) (At : Nat) (E most : Int) : Int := if rawE B At E ≠ 0 then rawE B At E else if bd most < rawV B At E then 1 else 0
theorem num3 (B : ByteArray) (At : Nat) (E most : Int) (h : At ≤ B.size) :
    (rawE B At E ≠ 0 ∧ rawV B At E = 0 ∧ numV B At E most = 0 ∧ numE B At E most = rawE B At E) ∨
    (rawE B At E = 0 ∧ bd most < rawV B At E ∧ numV B At E most = 0 ∧ numE B At E most = 1) ∨
    (rawE B At E = 0 ∧ rawV B At E ≤ bd most ∧ numV B At E most = rawV B At E ∧ numE B At E most = 0) := by
  have hz : rawE B At E ≠ 0 → rawV B At E = 0 := by
    intro hne
    rcases raw3 B At E h with ⟨_, _, e, _, _⟩ | ⟨_, _, _, _, _, _, _, e, _, _⟩ | ⟨_, N, W, _, _, h3, h4, h5, _, _, _, e, _, e2⟩
    · exact e
    · exact e
    · exact absurd e2 hne
  by_cases h1 : rawE B At E ≠ 0
  · exact .inl ⟨h1, hz h1, if_pos h1, if_pos h1⟩
  · have h0 : rawE B At E = 0 := by omega
    by_cases h2 : bd most < rawV B At E
    · exact .inr (.inl ⟨h0, h2, by unfold numV; rw [if_neg h1, if_pos h2], by unfold numE; rw [if_neg h1, if_pos h2]⟩)
    · exact .inr (.inr ⟨h0, by omega, by unfold numV; rw [if_neg h1, if_neg h2], by unfold numE; rw [if_neg h1, if_neg h2]⟩)
theorem numV_bd (B : ByteArray) (At : Nat) (E most : Int) (h : At ≤ B.size) : 0 ≤ numV B At E most ∧ numV B At E most ≤ 1152921504606846976 := by
  have := bd_bd most
  have := rawV_bd B At E h
  rcases num3 B At E most h with ⟨_, _, e, _⟩ | ⟨_, _, e, _⟩ | ⟨_, _, e, _⟩ <;> omega
def sgnV (B : ByteArray) (At : Nat) (E : Int) : Int := if rawE B At E ≠ 0 then 0 else zagS (rawV B At E)
def txtE (B : ByteArray) (At : Nat) (E most : Int) : Int := if numE B At E most ≠ 0 then numE B At E most else if (B.size : Int) - rawA B At E < numV B At E most then 2 else 0
def txtA (B : ByteArray) (At : Nat) (E most : Int) : Nat := if txtE B At E most ≠ 0 then rawA B At E else rawA B At E + (numV B At E most).toNat
def txtV (B : ByteArray) (At : Nat) (E most : Int) : ByteArray := if txtE B At E most ≠ 0 then ⟨#[]⟩ else B.extract (rawA B At E) (rawA B At E + (numV B At E most).toNat)
theorem txt3 (B : ByteArray) (At : Nat) (E most : Int) (h : At ≤ B.size) :
    (numE B At E most ≠ 0 ∧ numV B At E most = 0 ∧ txtE B At E most = numE B At E most ∧ txtA B At E most = rawA B At E ∧ txtV B At E most = ⟨#[]⟩) ∨
    (numE B At E most = 0 ∧ (B.size : Int) - rawA B At E < numV B At E most ∧ txtE B At E most = 2 ∧ txtA B At E most = rawA B At E ∧ txtV B At E most = ⟨#[]⟩) ∨
    (numE B At E most = 0 ∧ ∃ n : Nat, numV B At E most = n ∧ rawA B At E + n ≤ B.size ∧ txtE B At E most = 0 ∧ txtA B At E most = rawA B At E + n ∧ txtV B At E most = B.extract (rawA B At E) (rawA B At E + n)) := by
  have hV := numV_bd B At E most h
  by_cases h1 : numE B At E most ≠ 0
  · have e1 : txtE B At E most = numE B At E most := if_pos h1
    refine .inl ⟨h1, ?_, e1, by unfold txtA; rw [if_pos (by rw [e1]; exact h1)], by unfold txtV; rw [if_pos (by rw [e1]; exact h1)]⟩
    rcases num3 B At E most h with ⟨_, _, e, _⟩ | ⟨_, _, e, _⟩ | ⟨_, _, e, e2⟩
    · exact e
    · exact e
    · exact absurd e2 h1
  · have h0 : numE B At E most = 0 := by omega
    by_cases h2 : (B.size : Int) - rawA B At E < numV B At E most
    · have e1 : txtE B At E most = 2 := by unfold txtE; rw [if_neg h1, if_pos h2]
      exact .inr (.inl ⟨h0, h2, e1, by unfold txtA; rw [if_pos (by rw [e1]; decide)], by unfold txtV; rw [if_pos (by rw [e1]; decide)]⟩)
    · have e1 : txtE B At E most = 0 := by unfold txtE; rw [if_neg h1, if_neg h2]
      have hA := rawA_le B At E h
      refine .inr (.inr ⟨h0, (numV B At E most).toNat, by omega, by omega, e1, by unfold txtA; rw [if_neg (by rw [e1]; decide)], by unfold txtV; rw [if_neg (by rw [e1]; decide)]⟩)
theorem txtA_le (B : ByteArray) (At : Nat) (E most : Int) (h : At ≤ B.size) : txtA B At E most ≤ B.size := by
  have hA := rawA_le B At E h
  rcases txt3 B At E most h with ⟨_, _, _, e, _⟩ | ⟨_, _, _, e, _⟩ | ⟨_, n, _, h2, _, e, _⟩ <;> omega
/-- What End tells. -/
def endE (B : ByteArray) (At : Nat) (E : Int) : Int := if E ≠ 0 then E else if At < B.size then 4 else 0
/-- What Fail leaves. -/
def failE (E e : Int) : Int := if E ≠ 0 then E else e
theorem rst_len (B : ByteArray) (At : Nat) (_h : At ≤ B.size) : (B.extract At B.size).size = B.size - At := by simp
theorem rst_step (B : ByteArray) (At W : Nat) (h : At + W ≤ B.size) : (B.extract At B.size).extract W (B.extract At B.size).size = B.extract (At + W) B.size := by
  rw [rst_len B At (by omega)]
  apply eq_of_byt
  · simp; omega
  · intro i hi
    have hi' : i < B.size - (At + W) := by simp at hi; omega
    rw [byt_extract _ _ _ _ (by rw [rst_len B At (by omega)]; omega) (by omega), byt_extract _ _ _ _ (Nat.le_refl _) (by omega), byt_extract _ _ _ _ (Nat.le_refl _) (by omega), Nat.add_assoc]
theorem rst_text (B : ByteArray) (At n : Nat) (h : At + n ≤ B.size) : (B.extract At B.size).extract 0 n = B.extract At (At + n) := by
  apply eq_of_byt
  · simp; omega
  · intro i hi
    have hi' : i < n := by simp at hi; omega
    rw [byt_extract _ _ _ _ (by rw [rst_len B At (by omega)]; omega) (by omega), byt_extract _ _ _ _ (Nat.le_refl _) (by omega), byt_extract _ _ _ _ (by omega) (by omega), Nat.zero_add]
end Go.Proofs.YtpdpmdbdnpemnaaDoor
