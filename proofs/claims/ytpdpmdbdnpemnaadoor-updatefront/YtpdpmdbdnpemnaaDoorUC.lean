/- Plain mathematics: what is read of bytes that are cut. -/
import Derived.Test.YtpdpmdbdnpemnaaDoorUN
namespace Go.Proofs.YtpdpmdbdnpemnaaDoor
open Go
theorem un_front (B : ByteArray) (c a : Nat) (hc : c ≤ B.size) : ∀ k, a + k ≤ c → un (B.extract 0 c) a k = un B a k
  | 0, _ => rfl
  | 1, h => by simp only [un]; rw [byt_extract B 0 c a hc (by omega), Nat.zero_add]
  | k + 2, h => by
    simp only [un]
    rw [un_front B c a hc (k + 1) (by omega), byt_extract B 0 c (a + (k + 1)) hc (by omega), Nat.zero_add]
theorem getS_at (B : ByteArray) (At : Nat) (h : At ≤ B.size) : getS B At = if B.size < At + wid (byt B At) then (0, 0, 2) else if un B At (wid (byt B At)) < lo (wid (byt B At)) then (0, 0, 3) else (un B At (wid (byt B At)), (At : Int) + wid (byt B At), 0) := by
  unfold getS
  rw [if_neg (by omega)]
  rfl
theorem cut_size (B : ByteArray) (c : Nat) (hc : c ≤ B.size) : (B.extract 0 c).size = c := by simp only [ByteArray.size_extract]; omega
theorem cut_raw (B : ByteArray) (c At : Nat) (hA : At ≤ c) (hc : c ≤ B.size) (hE : rawE B At 0 = 0) :
    (rawA B At 0 ≤ c ∧ rawV (B.extract 0 c) At 0 = rawV B At 0 ∧ rawA (B.extract 0 c) At 0 = rawA B At 0 ∧ rawE (B.extract 0 c) At 0 = 0) ∨ (c < rawA B At 0 ∧ rawE (B.extract 0 c) At 0 = 2) := by
  have hs := cut_size B c hc
  have hw8 : 1 ≤ wid (byt B At) ∧ wid (byt B At) ≤ 8 := by rcases wid_cases (byt B At) with e | e | e | e <;> omega
  have g1 := getS_at B At (by omega)
  have g2 := getS_at (B.extract 0 c) At (by omega)
  rw [hs] at g2
  have hE' : (getS B At).2.2 = 0 := by unfold rawE at hE; rw [if_neg (by simp)] at hE; exact hE
  have n1 : ¬ B.size < At + wid (byt B At) := by
    intro hx; rw [g1, if_pos hx] at hE'; exact absurd hE' (by decide)
  rw [if_neg n1] at g1
  have n2 : ¬ un B At (wid (byt B At)) < lo (wid (byt B At)) := by
    intro hx; rw [g1, if_pos hx] at hE'; exact absurd hE' (by decide)
  rw [if_neg n2] at g1
  have hr1 := raw_ok B At (un B At (wid (byt B At))) (At + wid (byt B At)) (by rw [g1]; simp)
  rw [hr1.2.1, hr1.1]
  rcases Nat.lt_or_ge At c with h1 | h1
  · have hb : byt (B.extract 0 c) At = byt B At := by rw [byt_extract B 0 c At hc (by omega), Nat.zero_add]
    rw [hb] at g2
    rcases Nat.lt_or_ge c (At + wid (byt B At)) with h2 | h2
    · refine .inr ⟨h2, ?_⟩
      rw [if_pos h2] at g2
      exact (raw_err _ _ 2 (by decide) g2).2.2
    · refine .inl ⟨h2, ?_⟩
      rw [if_neg (by omega), un_front B c At hc _ h2, if_neg n2] at g2
      exact raw_ok _ At _ _ (by rw [g2]; simp)
  · obtain rfl : At = c := by omega
    have hb : byt (B.extract 0 At) At = 0 := byt_end _ _ (by omega)
    rw [hb, show wid 0 = 1 from rfl, if_pos (by omega)] at g2
    exact .inr ⟨by omega, (raw_err _ _ 2 (by decide) g2).2.2⟩
theorem cut_num (B : ByteArray) (c At : Nat) (m : Int) (hA : At ≤ c) (hc : c ≤ B.size) (hE : numE B At 0 m = 0) :
    (rawA B At 0 ≤ c ∧ numV (B.extract 0 c) At 0 m = numV B At 0 m ∧ rawA (B.extract 0 c) At 0 = rawA B At 0 ∧ numE (B.extract 0 c) At 0 m = 0) ∨ numE (B.extract 0 c) At 0 m = 2 := by
  have hs := cut_size B c hc
  obtain ⟨r1, r2, r3⟩ := got_num B At m (by omega) hE
  rcases cut_raw B c At hA hc r1 with ⟨h1, h2, h3, h4⟩ | ⟨h1, h2⟩
  · obtain ⟨q1, q2⟩ := (num_of (B.extract 0 c) At m _ (by omega) h2 h4).1 r3
    exact .inl ⟨h1, by rw [q1, r2], h3, q2⟩
  · exact .inr (by unfold numE; rw [h2, if_pos (by decide)])
theorem cut_txt (B : ByteArray) (c At : Nat) (m : Int) (hA : At ≤ c) (hc : c ≤ B.size) (hE : txtE B At 0 m = 0) :
    (txtA B At 0 m ≤ c ∧ txtV (B.extract 0 c) At 0 m = txtV B At 0 m ∧ txtA (B.extract 0 c) At 0 m = txtA B At 0 m ∧ txtE (B.extract 0 c) At 0 m = 0) ∨ txtE (B.extract 0 c) At 0 m = 2 := by
  have hs := cut_size B c hc
  rcases txt3 B At 0 m (by omega) with ⟨h1, _, h3, _⟩ | ⟨_, _, h3, _⟩ | ⟨h1, n, h2, h3, h4, h5, h6⟩
  · rw [h3] at hE; exact absurd hE h1
  · omega
  · rcases cut_num B c At m hA hc h1 with ⟨a1, a2, a3, a4⟩ | a1
    · rcases Nat.lt_or_ge c (rawA B At 0 + n) with hx | hx
      · refine .inr ?_
        unfold txtE
        rw [if_neg (by simp [a4]), a2, a3, h2, hs, if_pos (by omega)]
      · refine .inl ⟨by omega, ?_⟩
        have e1 : txtE (B.extract 0 c) At 0 m = 0 := by
          unfold txtE
          rw [if_neg (by simp [a4]), a2, a3, h2, hs, if_neg (by omega)]
        refine ⟨?_, ?_, e1⟩
        · unfold txtV
          rw [if_neg (by simp [e1]), if_neg (by simp [h4]), a2, a3, h2]
          have e2 : ((n : Int).toNat) = n := by omega
          rw [e2]
          apply eq_of_byt
          · simp only [ByteArray.size_extract]; omega
          · intro i hi
            have hi' : i < n := by simp only [ByteArray.size_extract] at hi; omega
            rw [byt_extract _ _ _ _ (by omega) (by omega), byt_extract _ _ _ _ (by omega) (by omega), byt_extract _ _ _ _ (by omega) (by omega), Nat.zero_add]
        · unfold txtA
          rw [if_neg (by simp [e1]), if_neg (by simp [h4]), a2, a3]
    · exact .inr (by unfold txtE; rw [a1, if_pos (by decide)])
theorem cut_upd (B : ByteArray) (c At : Nat) (hA : At ≤ c) (hc : c ≤ B.size) (u : Up) (A : Nat) (h : updR B At 0 = (u, A, 0)) (hcA : c < A) : (updR (B.extract 0 c) At 0).2.2 = 2 := by
  have hs := cut_size B c hc
  have hcc := updC B At 0 (by omega)
  rw [h] at hcc
  have key : ∀ A1 A2 k y, rawA B At 0 = A1 → txtA B A1 0 16 = A2 → numE B At 0 5 = 0 → 1 ≤ k ∧ k ≤ 5 → numV B At 0 5 = k → txtE B A1 0 16 = 0 → txtV B A1 0 16 = y → (A2 ≤ c ∧ rawA (B.extract 0 c) At 0 = A1 ∧ txtA (B.extract 0 c) A1 0 16 = A2 ∧ numE (B.extract 0 c) At 0 5 = 0 ∧ numV (B.extract 0 c) At 0 5 = k ∧ txtE (B.extract 0 c) A1 0 16 = 0 ∧ txtV (B.extract 0 c) A1 0 16 = y) ∨ (updR (B.extract 0 c) At 0).2.2 = 2 := by
    rintro A1 A2 k y rfl rfl h1 hk rfl h3 rfl
    rcases cut_num B c At 5 hA hc h1 with ⟨a1, a2, a3, a4⟩ | a1
    · rcases cut_txt B c (rawA B At 0) 16 a1 hc h3 with ⟨b1, b2, b3, b4⟩ | b1
      · exact .inl ⟨b1, a3, b3, a4, a2, b4, b2⟩
      · refine .inr ?_
        have hx := UpdC.c (B := B.extract 0 c) (At := At) (E := 0) _ a3 _ hk a4 a2 (by rw [b1]; decide)
        rw [updR_of hx]
        exact b1
    · refine .inr ?_
      have hx := UpdC.a (B := B.extract 0 c) (At := At) (E := 0) (by rw [a1]; decide)
      rw [updR_of hx]
      exact a1
  generalize hr : (u, A, (0 : Int)) = r at hcc
  cases hcc with
  | a h1 => exact absurd (Prod.mk.inj (Prod.mk.inj hr).2).2.symm h1
  | b => exact absurd (Prod.mk.inj (Prod.mk.inj hr).2).2 (by decide)
  | c A1 e1 k hk h1 h2 h3 => exact absurd (Prod.mk.inj (Prod.mk.inj hr).2).2.symm h3
  | d => exact absurd (Prod.mk.inj (Prod.mk.inj hr).2).2 (by decide)
  | e A1 A2 e1 e2 k hk h1 h2 h3 y h4 hy h5 => exact absurd (Prod.mk.inj (Prod.mk.inj hr).2).2.symm h5
  | g A1 A2 e1 e2 k hk h1 h2 h3 y h4 hy h5 => exact absurd (Prod.mk.inj (Prod.mk.inj hr).2).2.symm h5
  | f A1 A2 e1 e2 k hk h1 h2 h3 y h4 hy h5 =>
    obtain ⟨rfl, hr2⟩ := Prod.mk.inj hr
    obtain ⟨rfl, _⟩ := Prod.mk.inj hr2
    rcases key A1 A2 k y e1 e2 h1 (by omega) h2 h3 h4 with ⟨a1, a2, a3, a4, a5, a6, a7⟩ | hx
    · rcases cut_raw B c A2 a1 hc h5 with ⟨b1, _, _, _⟩ | ⟨_, b1⟩
      · omega
      · have hx := UpdC.e (B := B.extract 0 c) (At := At) (E := 0) _ _ a2 a3 k hk a4 a5 a6 y a7 hy (by rw [b1]; decide)
        rw [updR_of hx]
        exact b1
    · exact hx
  | h A1 A2 e1 e2 k hk h1 h2 h3 y h4 hy h5 =>
    obtain ⟨rfl, hr2⟩ := Prod.mk.inj hr
    obtain ⟨rfl, _⟩ := Prod.mk.inj hr2
    rcases key A1 A2 k y e1 e2 h1 (by omega) h2 h3 h4 with ⟨a1, a2, a3, a4, a5, a6, a7⟩ | hx
    · rcases cut_txt B c A2 32 a1 hc h5 with ⟨b1, _, _, _⟩ | b1
      · omega
      · have hx := UpdC.g (B := B.extract 0 c) (At := At) (E := 0) _ _ a2 a3 k hk a4 a5 a6 y a7 hy (by rw [b1]; decide)
        rw [updR_of hx]
        exact b1
    · exact hx
  | i A1 A2 e1 e2 h1 h2 h3 y h4 hy =>
    obtain ⟨rfl, hr2⟩ := Prod.mk.inj hr
    obtain ⟨rfl, _⟩ := Prod.mk.inj hr2
    rcases key A1 A 5 y e1 e2 h1 (by omega) h2 h3 h4 with ⟨a1, _⟩ | hx
    · omega
    · exact hx
theorem front_get (u : Up) (hu : mayE u = 0) (c : Nat) (hc : c < (pxU u).size) : getE ((pxU u).extract 0 c) = 2 ∧ getU ((pxU u).extract 0 c) = up0 := by
  have h := cut_upd (pxU u) c 0 (Nat.zero_le _) (by omega) u _ (upd_back u hu) hc
  have e : getE ((pxU u).extract 0 c) = 2 := by unfold getE endE; rw [h, if_pos (by decide)]
  exact ⟨e, by unfold getU; rw [e, if_pos (by decide)]⟩
end Go.Proofs.YtpdpmdbdnpemnaaDoor
