import Derived.Test.YtcknklodnfabpaaDoorXB
import Derived.Test.YtcknklodnfabpaaDoorUQ2
import Derived.Test.YtcknklodnfabpaaDoorUR3
import Derived.Deep.QuietTactic
import Derived.BigQuiet
/- Plain mathematics: updates that are put and read, read and put. -/
namespace Go.Proofs.YtcknklodnfabpaaDoor
open Go
theorem ext_join (B : ByteArray) (i j k : Nat) (h1 : i ≤ j) (h2 : j ≤ k) (h3 : k ≤ B.size) : B.extract i j ++ B.extract j k = B.extract i k := by
  apply eq_of_byt
  · simp only [ByteArray.size_append, ByteArray.size_extract]; omega
  · intro p hp
    have hp' : p < k - i := by simp only [ByteArray.size_append, ByteArray.size_extract] at hp; omega
    have hs : (B.extract i j).size = j - i := by simp only [ByteArray.size_extract]; omega
    rw [byt_extract B i k p h3 hp']
    rcases Nat.lt_or_ge p (j - i) with hq | hq
    · rw [byt_left _ _ _ (by omega), byt_extract B i j p (by omega) hq]
    · obtain ⟨q, rfl⟩ : ∃ q, p = (B.extract i j).size + q := ⟨p - (j - i), by omega⟩
      rw [byt_right _ _ _ (by simp only [ByteArray.size_extract]; omega), byt_extract B j k q h3 (by omega), hs]
      congr 1
      omega
theorem ext_all (B : ByteArray) : B.extract 0 B.size = B := by
  apply eq_of_byt
  · simp
  · intro p hp
    have hp' : p < B.size := by simp at hp; omega
    rw [byt_extract B 0 B.size p (Nat.le_refl _) (by omega), Nat.zero_add]
/-- What was put is got. -/
theorem pxN_put (n : Int) (h : okN n) : pxN n = strOfNums (putS n) := if_pos h
theorem pxS_put (n : Int) (h : okS n) : pxS n = strOfNums (putS (zigS n)) := if_pos h
theorem bd16 : bd 16 = 16 := by decide
theorem bd32 : bd 32 = 32 := by decide
theorem rd_u (x y : ByteArray) (u : Up) (hu : mayE u = 0) : updR (x ++ pxU u ++ y) x.size 0 = (u, x.size + (pxU u).size, 0) := by
  obtain ⟨key, k, n, t⟩ := u
  obtain ⟨k1, k2, hk⟩ := may_ok _ hu
  simp only at k1 k2 hk
  have hkN : okN k := by unfold okN; omega
  have hkb : 1 ≤ k ∧ k ≤ 5 := by omega
  have hsz : (pxU (key, k, n, t)).size = (pxN k).size + (pxT key).size + (pxK (key, k, n, t)).size := by unfold pxU; simp only [ByteArray.size_append]
  have hB1 : x ++ pxU (key, k, n, t) ++ y = x ++ strOfNums (putS k) ++ (pxT key ++ pxK (key, k, n, t) ++ y) := by
    unfold pxU; simp only [pxN_put k hkN, ByteArray.append_assoc]
  have hB2 : x ++ pxU (key, k, n, t) ++ y = (x ++ pxN k) ++ pxT key ++ (pxK (key, k, n, t) ++ y) := by
    unfold pxU; simp only [ByteArray.append_assoc]
  have hB3 : x ++ pxU (key, k, n, t) ++ y = (x ++ pxN k ++ pxT key) ++ pxK (key, k, n, t) ++ y := by
    unfold pxU; simp only [ByteArray.append_assoc]
  have hs1 : x.size ≤ (x ++ pxU (key, k, n, t) ++ y).size := by simp only [ByteArray.size_append]; omega
  obtain ⟨r1, r2, r3⟩ := rd_raw x (pxT key ++ pxK (key, k, n, t) ++ y) k hkN
  rw [← hB1] at r1 r2 r3
  rw [← pxN_put k hkN] at r2
  obtain ⟨n1, n2⟩ := (num_of _ x.size 5 _ hs1 r1 r3).1 (by rw [bd5]; omega)
  obtain ⟨t1, t2, t3⟩ := rd_txt (x ++ pxN k) (pxK (key, k, n, t) ++ y) key 16 (by omega) (by rw [bd16]; omega)
  rw [← hB2, show (x ++ pxN k).size = x.size + (pxN k).size from ByteArray.size_append] at t1 t2 t3
  have hz : (x ++ pxN k ++ pxT key).size = x.size + (pxN k).size + (pxT key).size := by simp only [ByteArray.size_append]
  rcases hk with ⟨hk, hn, rfl⟩ | ⟨hk, rfl, ht⟩ | ⟨rfl, rfl, rfl⟩
  · have e3 : pxK (key, k, n, ⟨#[]⟩) = strOfNums (putS (zigS n)) := by unfold pxK; simp only; rw [if_pos hk, pxS_put n hn]
    obtain ⟨q1, q2, q3⟩ := rd_raw (x ++ pxN k ++ pxT key) y (zigS n) (zig_bd n hn)
    rw [← e3, ← hB3, hz] at q1 q2 q3
    have hc := UpdC.f (B := x ++ pxU (key, k, n, ⟨#[]⟩) ++ y) (At := x.size) (E := 0) _ _ r2 t2 k hk n2 n1 t3 key t1 (by omega) q3
    rw [updR_of hc]
    have es : sgnV (x ++ pxU (key, k, n, ⟨#[]⟩) ++ y) (x.size + (pxN k).size + (pxT key).size) 0 = n := by
      unfold sgnV; rw [if_neg (by simp [q3]), q1, zag_zig]
    rw [es, q2, hsz]
    simp only [Nat.add_assoc]
  · have e3 : pxK (key, k, 0, t) = pxT t := by unfold pxK; simp only; rw [if_neg (by omega), if_pos hk]
    obtain ⟨q1, q2, q3⟩ := rd_txt (x ++ pxN k ++ pxT key) y t 32 (by omega) (by rw [bd32]; omega)
    rw [← e3, ← hB3, hz] at q1 q2 q3
    have hc := UpdC.h (B := x ++ pxU (key, k, 0, t) ++ y) (At := x.size) (E := 0) _ _ r2 t2 k hk n2 n1 t3 key t1 (by omega) q3
    rw [updR_of hc, q1, q2, hsz]
    simp only [Nat.add_assoc]
  · have e3 : (pxK (key, 5, 0, ⟨#[]⟩)).size = 0 := rfl
    have hc := UpdC.i (B := x ++ pxU (key, 5, 0, ⟨#[]⟩) ++ y) (At := x.size) (E := 0) _ _ r2 t2 n2 n1 t3 key t1 (by omega)
    rw [updR_of hc, hsz, e3]
    simp only [Nat.add_assoc, Nat.add_zero]
theorem upd_back (u : Up) (hu : mayE u = 0) : updR (pxU u) 0 0 = (u, (pxU u).size, 0) := by
  have h := rd_u ⟨#[]⟩ ⟨#[]⟩ u hu
  rw [emp_app, app_empty] at h
  rw [show (⟨#[]⟩ : ByteArray).size = 0 from rfl, Nat.zero_add] at h
  exact h
theorem putS_one (n : Int) (_h0 : 0 ≤ n) (h : n < 64) : (putS n).length = 1 := by
  unfold putS
  rw [if_pos h]
  rfl
theorem pxN_one (n : Int) (h0 : 0 ≤ n) (h : n < 64) : (pxN n).size = 1 := by
  rw [pxN_put n (by unfold okN; omega), strOfNums_size, putS_one n h0 h]
theorem pxT_one (t : ByteArray) (h : t.size < 64) : (pxT t).size = 1 + t.size := by
  unfold pxT
  rw [ByteArray.size_append, strOfNums_size, putS_one _ (by omega) (by omega)]
theorem pxU_52 (u : Up) (hu : mayE u = 0) : (pxU u).size ≤ 52 := by
  obtain ⟨h1, h2, h3⟩ := may_ok u hu
  unfold pxU
  simp only [ByteArray.size_append]
  rw [pxN_one _ (by omega) (by omega), pxT_one _ (by omega)]
  have z3 : (pxK u).size ≤ 33 := by
    unfold pxK
    split
    · have := pxS_size u.2.2.1; omega
    · split
      · rename_i ha hb
        have ht : u.2.2.2.size ≤ 32 := by
          rcases h3 with ⟨a, _⟩ | ⟨_, _, c⟩ | ⟨a, _⟩
          · exact absurd a ha
          · exact c
          · omega
        rw [pxT_one _ (by omega)]; omega
      · show 0 ≤ 33; omega
  omega
/-- What is got is put as it was. -/
theorem got_raw (B : ByteArray) (At : Nat) (hA : At ≤ B.size) (h : rawE B At 0 = 0) : okN (rawV B At 0) ∧ strOfNums (putS (rawV B At 0)) = B.extract At (rawA B At 0) ∧ At ≤ rawA B At 0 ∧ rawA B At 0 ≤ B.size := by
  rcases raw3 B At 0 hA with ⟨h0, _⟩ | ⟨_, e, he, _, _, _, _, _, _, hEE⟩ | ⟨_, N, W, h1, h2, h3, h4, h5, _, hg, _, hV, hAA, _⟩
  · exact absurd rfl h0
  · omega
  · rw [hV, hAA]
    refine ⟨⟨h4, h5⟩, ?_, by omega, h3⟩
    obtain ⟨W', _, _, _, _, hw, hp⟩ := putS_got (B.extract At B.size) (by rw [hg])
    rw [hg] at hw hp
    simp only at hw hp
    obtain rfl : W = W' := by omega
    rw [hp, rst_text B At W h3]
theorem got_num (B : ByteArray) (At : Nat) (m : Int) (hA : At ≤ B.size) (h : numE B At 0 m = 0) : rawE B At 0 = 0 ∧ numV B At 0 m = rawV B At 0 ∧ rawV B At 0 ≤ bd m := by
  rcases num3 B At 0 m hA with ⟨h1, _, _, h4⟩ | ⟨_, _, _, h4⟩ | ⟨h1, h2, h3, _⟩
  · rw [h4] at h; exact absurd h h1
  · omega
  · exact ⟨h1, h3, h2⟩
theorem got_txt (B : ByteArray) (At : Nat) (m : Int) (hA : At ≤ B.size) (h : txtE B At 0 m = 0) : pxT (txtV B At 0 m) = B.extract At (txtA B At 0 m) ∧ ((txtV B At 0 m).size : Int) ≤ bd m ∧ At ≤ txtA B At 0 m ∧ txtA B At 0 m ≤ B.size := by
  rcases txt3 B At 0 m hA with ⟨h1, _, h3, _⟩ | ⟨_, _, h3, _⟩ | ⟨h1, n, h2, h3, h4, h5, h6⟩
  · rw [h3] at h; exact absurd h h1
  · omega
  · obtain ⟨r1, r2, r3⟩ := got_num B At m hA h1
    obtain ⟨_, q2, q3, q4⟩ := got_raw B At hA r1
    have hs : (txtV B At 0 m).size = n := by rw [h6]; simp only [ByteArray.size_extract]; omega
    refine ⟨?_, by rw [hs, ← h2, r2]; exact r3, by omega, by omega⟩
    unfold pxT
    rw [hs, ← h2, r2, q2, h6, h5]
    exact ext_join B _ _ _ q3 (by omega) h3
theorem zig_zag (v : Int) (h0 : 0 ≤ v) : zigS (zagS v) = v := by
  unfold zagS zigS
  split <;> split <;> omega
theorem zag_ok (v : Int) (h0 : 0 ≤ v) (h1 : v < 4611686018427387904) : okS (zagS v) := by
  unfold zagS okS
  split <;> omega
theorem got_sgn (B : ByteArray) (At : Nat) (hA : At ≤ B.size) (h : rawE B At 0 = 0) : okS (sgnV B At 0) ∧ pxS (sgnV B At 0) = B.extract At (rawA B At 0) ∧ At ≤ rawA B At 0 ∧ rawA B At 0 ≤ B.size := by
  obtain ⟨q1, q2, q3, q4⟩ := got_raw B At hA h
  have e : sgnV B At 0 = zagS (rawV B At 0) := by unfold sgnV; rw [if_neg (by simp [h])]
  have ho := zag_ok _ q1.1 q1.2
  rw [e]
  exact ⟨ho, by rw [pxS_put _ ho, zig_zag _ q1.1, q2], q3, q4⟩
theorem got_upd (B : ByteArray) (At : Nat) (hA : At ≤ B.size) (u : Up) (A : Nat) (h : updR B At 0 = (u, A, 0)) : mayE u = 0 ∧ pxU u = B.extract At A ∧ At ≤ A ∧ A ≤ B.size := by
  have hc := updC B At 0 hA
  rw [h] at hc
  have key : ∀ A1 A2 k y, rawA B At 0 = A1 → txtA B A1 0 16 = A2 → numE B At 0 5 = 0 → numV B At 0 5 = k → txtE B A1 0 16 = 0 → txtV B A1 0 16 = y → pxN k ++ pxT y = B.extract At A2 ∧ y.size ≤ 16 ∧ At ≤ A2 ∧ A2 ≤ B.size := by
    rintro A1 A2 k y rfl rfl h1 rfl h3 rfl
    obtain ⟨r1, r2, _⟩ := got_num B At 5 hA h1
    obtain ⟨q1, q2, q3, q4⟩ := got_raw B At hA r1
    obtain ⟨t1, t2, t3, t4⟩ := got_txt B _ 16 q4 h3
    rw [bd16] at t2
    refine ⟨?_, by omega, by omega, t4⟩
    rw [r2, pxN_put _ q1, q2, t1]
    exact ext_join B _ _ _ q3 t3 t4
  generalize hr : (u, A, (0 : Int)) = r at hc
  cases hc with
  | a h1 => exact absurd (Prod.mk.inj (Prod.mk.inj hr).2).2.symm h1
  | b => exact absurd (Prod.mk.inj (Prod.mk.inj hr).2).2 (by decide)
  | c A1 e1 k hk h1 h2 h3 => exact absurd (Prod.mk.inj (Prod.mk.inj hr).2).2.symm h3
  | d => exact absurd (Prod.mk.inj (Prod.mk.inj hr).2).2 (by decide)
  | e A1 A2 e1 e2 k hk h1 h2 h3 y h4 hy h5 => exact absurd (Prod.mk.inj (Prod.mk.inj hr).2).2.symm h5
  | g A1 A2 e1 e2 k hk h1 h2 h3 y h4 hy h5 => exact absurd (Prod.mk.inj (Prod.mk.inj hr).2).2.symm h5
  | f A1 A2 e1 e2 k hk h1 h2 h3 y h4 hy h5 =>
    obtain ⟨rfl, hr2⟩ := Prod.mk.inj hr
    obtain ⟨rfl, _⟩ := Prod.mk.inj hr2
    obtain ⟨a1, a2, a3, a4⟩ := key A1 A2 k y e1 e2 h1 h2 h3 h4
    obtain ⟨s1, s2, s3, s4⟩ := got_sgn B A2 a4 h5
    refine ⟨ok_may _ (by show 1 ≤ y.size; omega) a2 (.inl ⟨hk, s1, rfl⟩), ?_, by omega, s4⟩
    rw [pxU_1 _ _ _ _ hk, a1, s2]
    exact ext_join B _ _ _ a3 s3 s4
  | h A1 A2 e1 e2 k hk h1 h2 h3 y h4 hy h5 =>
    obtain ⟨rfl, hr2⟩ := Prod.mk.inj hr
    obtain ⟨rfl, _⟩ := Prod.mk.inj hr2
    obtain ⟨a1, a2, a3, a4⟩ := key A1 A2 k y e1 e2 h1 h2 h3 h4
    obtain ⟨s1, s2, s3, s4⟩ := got_txt B A2 32 a4 h5
    rw [bd32] at s2
    refine ⟨ok_may _ (by show 1 ≤ y.size; omega) a2 (.inr (.inl ⟨hk, rfl, by show (txtV B A2 0 32).size ≤ 32; omega⟩)), ?_, by omega, s4⟩
    rw [pxU_2 _ _ _ _ hk, a1, s1]
    exact ext_join B _ _ _ a3 s3 s4
  | i A1 A2 e1 e2 h1 h2 h3 y h4 hy =>
    obtain ⟨rfl, hr2⟩ := Prod.mk.inj hr
    obtain ⟨rfl, _⟩ := Prod.mk.inj hr2
    obtain ⟨a1, a2, a3, a4⟩ := key A1 A 5 y e1 e2 h1 h2 h3 h4
    exact ⟨ok_may _ (by show 1 ≤ y.size; omega) a2 (.inr (.inr ⟨rfl, rfl, rfl⟩)), by rw [pxU_5, a1], a3, a4⟩
end Go.Proofs.YtcknklodnfabpaaDoor
/- Plain mathematics: what is read of bytes that are cut. -/
namespace Go.Proofs.YtcknklodnfabpaaDoor
open Go
theorem un_front (B : ByteArray) (c a : Nat) (hc : c ≤ B.size) : ∀ k, a + k ≤ c → un (B.extract 0 c) a k = un B a k
  | 0, _ => rfl
  | 1, h => by simp only [un]; rw [byt_extract B 0 c a hc (by omega), Nat.zero_add]
  | k + 2, h => by
    simp only [un]
    rw [un_front B c a hc (k + 1) (by omega), byt_extract B 0 c (a + (k + 1)) hc (by omega), Nat.zero_add]
theorem getS_at (B : ByteArray) (At : Nat) (h : At ≤ B.size) : getS B At = if B.size < At + wid (byt B At) then (0, 0, 2) else if un B At (wid (byt B At)) < lo (wid (byt B At)) then (0, 0, 3) else (un B At (wid (byt B At)), (At : Int) + wid (byt B At), 0) := by
  unfold getS
  rw [if_neg (by omega)]
  rfl
theorem cut_size (B : ByteArray) (c : Nat) (hc : c ≤ B.size) : (B.extract 0 c).size = c := by simp only [ByteArray.size_extract]; omega
theorem cut_raw (B : ByteArray) (c At : Nat) (hA : At ≤ c) (hc : c ≤ B.size) (hE : rawE B At 0 = 0) :
    (rawA B At 0 ≤ c ∧ rawV (B.extract 0 c) At 0 = rawV B At 0 ∧ rawA (B.extract 0 c) At 0 = rawA B At 0 ∧ rawE (B.extract 0 c) At 0 = 0) ∨ (c < rawA B At 0 ∧ rawE (B.extract 0 c) At 0 = 2) := by
  have hs := cut_size B c hc
  have hw8 : 1 ≤ wid (byt B At) ∧ wid (byt B At) ≤ 8 := by rcases wid_cases (byt B At) with e | e | e | e <;> omega
  have g1 := getS_at B At (by omega)
  have g2 := getS_at (B.extract 0 c) At (by omega)
  rw [hs] at g2
  have hE' : (getS B At).2.2 = 0 := by unfold rawE at hE; rw [if_neg (by simp)] at hE; exact hE
  have n1 : ¬ B.size < At + wid (byt B At) := by
    intro hx; rw [g1, if_pos hx] at hE'; exact absurd hE' (by decide)
  rw [if_neg n1] at g1
  have n2 : ¬ un B At (wid (byt B At)) < lo (wid (byt B At)) := by
    intro hx; rw [g1, if_pos hx] at hE'; exact absurd hE' (by decide)
  rw [if_neg n2] at g1
  have hr1 := raw_ok B At (un B At (wid (byt B At))) (At + wid (byt B At)) (by rw [g1]; simp)
  rw [hr1.2.1, hr1.1]
  rcases Nat.lt_or_ge At c with h1 | h1
  · have hb : byt (B.extract 0 c) At = byt B At := by rw [byt_extract B 0 c At hc (by omega), Nat.zero_add]
    rw [hb] at g2
    rcases Nat.lt_or_ge c (At + wid (byt B At)) with h2 | h2
    · refine .inr ⟨h2, ?_⟩
      rw [if_pos h2] at g2
      exact (raw_err _ _ 2 (by decide) g2).2.2
    · refine .inl ⟨h2, ?_⟩
      rw [if_neg (by omega), un_front B c At hc _ h2, if_neg n2] at g2
      exact raw_ok _ At _ _ (by rw [g2]; simp)
  · obtain rfl : At = c := by omega
    have hb : byt (B.extract 0 At) At = 0 := byt_end _ _ (by omega)
    rw [hb, show wid 0 = 1 from rfl, if_pos (by omega)] at g2
    exact .inr ⟨by omega, (raw_err _ _ 2 (by decide) g2).2.2⟩
theorem cut_num (B : ByteArray) (c At : Nat) (m : Int) (hA : At ≤ c) (hc : c ≤ B.size) (hE : numE B At 0 m = 0) :
    (rawA B At 0 ≤ c ∧ numV (B.extract 0 c) At 0 m = numV B At 0 m ∧ rawA (B.extract 0 c) At 0 = rawA B At 0 ∧ numE (B.extract 0 c) At 0 m = 0) ∨ numE (B.extract 0 c) At 0 m = 2 := by
  have hs := cut_size B c hc
  obtain ⟨r1, r2, r3⟩ := got_num B At m (by omega) hE
  rcases cut_raw B c At hA hc r1 with ⟨h1, h2, h3, h4⟩ | ⟨h1, h2⟩
  · obtain ⟨q1, q2⟩ := (num_of (B.extract 0 c) At m _ (by omega) h2 h4).1 r3
    exact .inl ⟨h1, by rw [q1, r2], h3, q2⟩
  · exact .inr (by unfold numE; rw [h2, if_pos (by decide)])
theorem cut_txt (B : ByteArray) (c At : Nat) (m : Int) (hA : At ≤ c) (hc : c ≤ B.size) (hE : txtE B At 0 m = 0) :
    (txtA B At 0 m ≤ c ∧ txtV (B.extract 0 c) At 0 m = txtV B At 0 m ∧ txtA (B.extract 0 c) At 0 m = txtA B At 0 m ∧ txtE (B.extract 0 c) At 0 m = 0) ∨ txtE (B.extract 0 c) At 0 m = 2 := by
  have hs := cut_size B c hc
  rcases txt3 B At 0 m (by omega) with ⟨h1, _, h3, _⟩ | ⟨_, _, h3, _⟩ | ⟨h1, n, h2, h3, h4, h5, h6⟩
  · rw [h3] at hE; exact absurd hE h1
  · omega
  · rcases cut_num B c At m hA hc h1 with ⟨a1, a2, a3, a4⟩ | a1
    · rcases Nat.lt_or_ge c (rawA B At 0 + n) with hx | hx
      · refine .inr ?_
        unfold txtE
        rw [if_neg (by simp [a4]), a2, a3, h2, hs, if_pos (by omega)]
      · refine .inl ⟨by omega, ?_⟩
        have e1 : txtE (B.extract 0 c) At 0 m = 0 := by
          unfold txtE
          rw [if_neg (by simp [a4]), a2, a3, h2, hs, if_neg (by omega)]
        refine ⟨?_, ?_, e1⟩
        · unfold txtV
          rw [if_neg (by simp [e1]), if_neg (by simp [h4]), a2, a3, h2]
          have e2 : ((n : Int).toNat) = n := by omega
          rw [e2]
          apply eq_of_byt
          · simp only [ByteArray.size_extract]; omega
          · intro i hi
            have hi' : i < n := by simp only [ByteArray.size_extract] at hi; omega
            rw [byt_extract _ _ _ _ (by omega) (by omega), byt_extract _ _ _ _ (by omega) (by omega), byt_extract _ _ _ _ (by omega) (by omega), Nat.zero_add]
        · unfold txtA
          rw [if_neg (by simp [e1]), if_neg (by simp [h4]), a2, a3]
    · exact .inr (by unfold txtE; rw [a1, if_pos (by decide)])
theorem cut_upd (B : ByteArray) (c At : Nat) (hA : At ≤ c) (hc : c ≤ B.size) (u : Up) (A : Nat) (h : updR B At 0 = (u, A, 0)) (hcA : c < A) : (updR (B.extract 0 c) At 0).2.2 = 2 := by
  have hs := cut_size B c hc
  have hcc := updC B At 0 (by omega)
  rw [h] at hcc
  have key : ∀ A1 A2 k y, rawA B At 0 = A1 → txtA B A1 0 16 = A2 → numE B At 0 5 = 0 → 1 ≤ k ∧ k ≤ 5 → numV B At 0 5 = k → txtE B A1 0 16 = 0 → txtV B A1 0 16 = y → (A2 ≤ c ∧ rawA (B.extract 0 c) At 0 = A1 ∧ txtA (B.extract 0 c) A1 0 16 = A2 ∧ numE (B.extract 0 c) At 0 5 = 0 ∧ numV (B.extract 0 c) At 0 5 = k ∧ txtE (B.extract 0 c) A1 0 16 = 0 ∧ txtV (B.extract 0 c) A1 0 16 = y) ∨ (updR (B.extract 0 c) At 0).2.2 = 2 := by
    rintro A1 A2 k y rfl rfl h1 hk rfl h3 rfl
    rcases cut_num B c At 5 hA hc h1 with ⟨a1, a2, a3, a4⟩ | a1
    · rcases cut_txt B c (rawA B At 0) 16 a1 hc h3 with ⟨b1, b2, b3, b4⟩ | b1
      · exact .inl ⟨b1, a3, b3, a4, a2, b4, b2⟩
      · refine .inr ?_
        have hx := UpdC.c (B := B.extract 0 c) (At := At) (E := 0) _ a3 _ hk a4 a2 (by rw [b1]; decide)
        rw [updR_of hx]
        exact b1
    · refine .inr ?_
      have hx := UpdC.a (B := B.extract 0 c) (At := At) (E := 0) (by rw [a1]; decide)
      rw [updR_of hx]
      exact a1
  generalize hr : (u, A, (0 : Int)) = r at hcc
  cases hcc with
  | a h1 => exact absurd (Prod.mk.inj (Prod.mk.inj hr).2).2.symm h1
  | b => exact absurd (Prod.mk.inj (Prod.mk.inj hr).2).2 (by decide)
  | c A1 e1 k hk h1 h2 h3 => exact absurd (Prod.mk.inj (Prod.mk.inj hr).2).2.symm h3
  | d => exact absurd (Prod.mk.inj (Prod.mk.inj hr).2).2 (by decide)
  | e A1 A2 e1 e2 k hk h1 h2 h3 y h4 hy h5 => exact absurd (Prod.mk.inj (Prod.mk.inj hr).2).2.symm h5
  | g A1 A2 e1 e2 k hk h1 h2 h3 y h4 hy h5 => exact absurd (Prod.mk.inj (Prod.mk.inj hr).2).2.symm h5
  | f A1 A2 e1 e2 k hk h1 h2 h3 y h4 hy h5 =>
    obtain ⟨rfl, hr2⟩ := Prod.mk.inj hr
    obtain ⟨rfl, _⟩ := Prod.mk.inj hr2
    rcases key A1 A2 k y e1 e2 h1 (by omega) h2 h3 h4 with ⟨a1, a2, a3, a4, a5, a6, a7⟩ | hx
    · rcases cut_raw B c A2 a1 hc h5 with ⟨b1, _, _, _⟩ | ⟨_, b1⟩
      · omega
      · have hx := UpdC.e (B := B.extract 0 c) (At := At) (E := 0) _ _ a2 a3 k hk a4 a5 a6 y a7 hy (by rw [b1]; decide)
        rw [updR_of hx]
        exact b1
    · exact hx
  | h A1 A2 e1 e2 k hk h1 h2 h3 y h4 hy h5 =>
    obtain ⟨rfl, hr2⟩ := Prod.mk.inj hr
    obtain ⟨rfl, _⟩ := Prod.mk.inj hr2
    rcases key A1 A2 k y e1 e2 h1 (by omega) h2 h3 h4 with ⟨a1, a2, a3, a4, a5, a6, a7⟩ | hx
    · rcases cut_txt B c A2 32 a1 hc h5 with ⟨b1, _, _, _⟩ | b1
      · omega
      · have hx := UpdC.g (B := B.extract 0 c) (At := At) (E := 0) _ _ a2 a3 k hk a4 a5 a6 y a7 hy (by rw [b1]; decide)
        rw [updR_of hx]
        exact b1
    · exact hx
  | i A1 A2 e1 e2 h1 h2 h3 y h4 hy =>
    obtain ⟨rfl, hr2⟩ := Prod.mk.inj hr
    obtain ⟨rfl, _⟩ := Prod.mk.inj hr2
    rcases key A1 A 5 y e1 e2 h1 (by omega) h2 h3 h4 with ⟨a1, _⟩ | hx
    · omega
    · exact hx
end Go.Proofs.YtcknklodnfabpaaDoor
/- Great and GreatAll of updates; updates one behind the other; a writer within a loop. -/
namespace Go.Proofs.YtcknklodnfabpaaDoor
open Go Go.RowKit
/-- Is an update more than is played? -/
def gU (u : Up) : Prop := 100 < u.1.size ∨ 1200 < u.2.2.2.size
theorem great_u_no (u : Up) (h : ¬ gU u) (w : World) : Calls Tryd.prog 39 #[uu u] w fun e w' => e = .returned (.bool false) ∧ Below w.heap.size w w' := by
  obtain ⟨key, x, n, s⟩ := u
  unfold gU at h
  simp only at h
  have q1 : decide ((100 : Int) < (key.size : Int)) = false := decide_eq_false (by omega)
  have q2 : decide ((1200 : Int) < (s.size : Int)) = false := decide_eq_false (by omega)
  unfold uu
  go_enter Tryd.func39, Tryd.ntmps39
  go_wp2
  go_ret
  exact ⟨rfl, Joins.below_alloc1 _ _⟩
theorem great_u_yes (u : Up) (h : gU u) (w : World) : Calls Tryd.prog 39 #[uu u] w fun e w' => e = .returned (.bool true) ∧ Below w.heap.size w w' := by
  obtain ⟨key, x, n, s⟩ := u
  unfold gU at h
  simp only at h
  unfold uu
  by_cases h1 : 100 < key.size
  · have q1 : decide ((100 : Int) < (key.size : Int)) = true := decide_eq_true (by omega)
    clear h
    go_enter Tryd.func39, Tryd.ntmps39
    go_wp2
    go_ret
    exact ⟨rfl, Joins.below_alloc1 _ _⟩
  · have q1 : decide ((100 : Int) < (key.size : Int)) = false := decide_eq_false (by omega)
    have q2 : decide ((1200 : Int) < (s.size : Int)) = true := decide_eq_true (by omega)
    clear h
    go_enter Tryd.func39, Tryd.ntmps39
    go_wp2
    go_ret
    exact ⟨rfl, Joins.below_alloc1 _ _⟩
theorem Below.next {w w1 w2 : World} (h : Below w.heap.size w w1) (hb : Below w1.heap.size w1 w2) : Below w.heap.size w w2 := h.trans (hb.mono h.size)
/-- Is there more than is played? -/
def gAll (len : Nat) (us : List Up) : Prop := 200 < len ∨ ∃ i, i < len ∧ gU (us.getD i up0)
set_option maxHeartbeats 2000000 in
theorem greatAll_no (a : Option Addr) (len cap : Nat) (us : List Up) (hg : ¬ gAll len us) (w : World) (h : IsUs w a len us) :
    Calls Tryd.prog 19 #[.slice a len cap] w fun x w' => x = .returned (.bool false) ∧ Below w.heap.size w w' := by
  unfold gAll at hg
  have hl : len ≤ 200 := by omega
  have HT : Hid (∀ i, i < len → ¬ gU (us.getD i up0)) := fun i hi hx => hg (.inr ⟨i, hi, hx⟩)
  have H := Lib.hid h
  clear h hg
  go_enter Tryd.func19, Tryd.ntmps19
  go_wp2_with fail
  go_loopw [3] (fun v3 wr => ∃ k : Nat, k ≤ len ∧ v3 = .int .i64 k ∧ Below w.heap.size w wr) (fun v3 _ => len - (intOf v3).toNat)
  case atStart => exact ⟨0, Nat.zero_le _, rfl, Below.refl _ _⟩
  case round =>
    obtain ⟨k, hk, rfl, hbel⟩ := hrel
    by_cases hlt : k < len
    · obtain ⟨b, off, rfl, hf⟩ := H.out.lies (by omega)
      have hfl := H.out.size
      have hb := hf.lt (by omega)
      have c0 : wr.cell? ⟨b, off + k * 4, none⟩ = some (.string (us.getD k up0).1) := (hbel.cell hb).trans (hf.key k (by omega))
      have c1 : wr.cell? ⟨b, off + k * 4 + 1, none⟩ = some (.int .i64 (us.getD k up0).2.1) := (hbel.cell hb).trans (hf.k k (by omega))
      have c2 : wr.cell? ⟨b, off + k * 4 + 2, none⟩ = some (.int .i64 (us.getD k up0).2.2.1) := (hbel.cell hb).trans (hf.n k (by omega))
      have c3 : wr.cell? ⟨b, off + k * 4 + 3, none⟩ = some (.string (us.getD k up0).2.2.2) := (hbel.cell hb).trans (hf.t k (by omega))
      have HG := fun w => Lib.hid (great_u_no (us.getD k up0) (HT.out k hlt) w)
      have HBEL := Lib.hid hbel
      clear hf hfl hb hbel
      generalize us.getD k up0 = u at *
      obtain ⟨key, x, n, s⟩ := u
      simp only [uu] at c0 c1 c2 c3 HG
      go_wp2_with fail
      refine (HG _).out.mono ?_
      rintro e w2 ⟨rfl, hb⟩
      have HB2 := Lib.hid (Below.next HBEL.out hb)
      clear hb HBEL
      go_wp2
      go_roundw
      case rel => exact ⟨k + 1, by omega, by go_num, HB2.out⟩
      case measure => simp [intOf]; omega
    · obtain rfl : k = len := by omega
      have HBEL := Lib.hid hbel
      clear hbel
      go_wp2
      go_ret
      exact ⟨rfl, HBEL.out⟩
set_option maxHeartbeats 2000000 in
theorem greatAll_yes (a : Option Addr) (len cap : Nat) (us : List Up) (hg : gAll len us) (w : World) (h : IsUs w a len us) :
    Calls Tryd.prog 19 #[.slice a len cap] w fun x w' => x = .returned (.bool true) ∧ Below w.heap.size w w' := by
  by_cases hl : 200 < len
  · clear h hg
    go_enter Tryd.func19, Tryd.ntmps19
    go_wp2
    go_ret
    exact ⟨rfl, Below.refl _ _⟩
  obtain ⟨i, hi, hti⟩ : ∃ i, i < len ∧ gU (us.getD i up0) := by
    rcases hg with hx | hx
    · exact absurd hx hl
    · exact hx
  have hl' : len ≤ 200 := by omega
  have HT := Lib.hid hti
  have H := Lib.hid h
  clear h hg hl hti
  go_enter Tryd.func19, Tryd.ntmps19
  go_wp2_with fail
  go_loopw [3] (fun v3 wr => ∃ k : Nat, k ≤ i ∧ v3 = .int .i64 k ∧ Below w.heap.size w wr) (fun v3 _ => len - (intOf v3).toNat)
  case atStart => exact ⟨0, Nat.zero_le _, rfl, Below.refl _ _⟩
  case round =>
    obtain ⟨k, hk, rfl, hbel⟩ := hrel
    have hlt : k < len := by omega
    obtain ⟨b, off, rfl, hf⟩ := H.out.lies (by omega)
    have hfl := H.out.size
    have hb := hf.lt (by omega)
    have c0 : wr.cell? ⟨b, off + k * 4, none⟩ = some (.string (us.getD k up0).1) := (hbel.cell hb).trans (hf.key k (by omega))
    have c1 : wr.cell? ⟨b, off + k * 4 + 1, none⟩ = some (.int .i64 (us.getD k up0).2.1) := (hbel.cell hb).trans (hf.k k (by omega))
    have c2 : wr.cell? ⟨b, off + k * 4 + 2, none⟩ = some (.int .i64 (us.getD k up0).2.2.1) := (hbel.cell hb).trans (hf.n k (by omega))
    have c3 : wr.cell? ⟨b, off + k * 4 + 3, none⟩ = some (.string (us.getD k up0).2.2.2) := (hbel.cell hb).trans (hf.t k (by omega))
    have HBEL := Lib.hid hbel
    by_cases htt : gU (us.getD k up0)
    · have HG := fun w => Lib.hid (great_u_yes (us.getD k up0) htt w)
      clear hf hfl hb hbel htt
      generalize us.getD k up0 = u at *
      obtain ⟨key, x, n, s⟩ := u
      simp only [uu] at c0 c1 c2 c3 HG
      go_wp2_with fail
      refine (HG _).out.mono ?_
      rintro e w2 ⟨rfl, hb⟩
      have HB2 := Lib.hid (Below.next HBEL.out hb)
      clear hb HBEL
      go_wp2
      go_ret
      exact ⟨rfl, HB2.out⟩
    · have hki : k < i := by
        rcases Nat.lt_or_ge k i with hx | hx
        · exact hx
        · exact absurd (show gU (us.getD k up0) by rw [show k = i by omega]; exact HT.out) htt
      have HG := fun w => Lib.hid (great_u_no (us.getD k up0) htt w)
      clear hf hfl hb hbel htt
      generalize us.getD k up0 = u at *
      obtain ⟨key, x, n, s⟩ := u
      simp only [uu] at c0 c1 c2 c3 HG
      go_wp2_with fail
      refine (HG _).out.mono ?_
      rintro e w2 ⟨rfl, hb⟩
      have HB2 := Lib.hid (Below.next HBEL.out hb)
      clear hb HBEL
      go_wp2
      go_roundw
      case rel => exact ⟨k + 1, by omega, by go_num, HB2.out⟩
      case measure => simp [intOf]; omega
def catU : List Up → ByteArray
  | [] => ⟨#[]⟩
  | u :: l => pxU u ++ catU l
theorem catU_append (a b : List Up) : catU (a ++ b) = catU a ++ catU b := by
  induction a with
  | nil => simp only [List.nil_append, catU, emp_app]
  | cons x l ih => simp only [List.cons_append, catU, ih, ByteArray.append_assoc]
theorem utake_step (us : List Up) (k : Nat) (h : k < us.length) : us.take (k + 1) = us.take k ++ [us.getD k up0] := by
  rw [List.take_add_one, List.getElem?_eq_getElem h, List.getD_eq_getElem?_getD, List.getElem?_eq_getElem h]
  rfl
theorem catU_step (us : List Up) (k : Nat) (h : k < us.length) : catU (us.take (k + 1)) = catU (us.take k) ++ pxU (us.getD k up0) := by
  rw [utake_step us k h, catU_append]
  simp only [catU, app_empty]
theorem catU_split (us : List Up) (n k : Nat) (h : k < n) (hn : n ≤ us.length) : ∃ post, catU (us.take n) = catU (us.take k) ++ pxU (us.getD k up0) ++ post := by
  refine ⟨catU ((us.take n).drop (k + 1)), ?_⟩
  rw [← catU_step us k (by omega), ← catU_append]
  congr 1
  have e : us.take (k + 1) = (us.take n).take (k + 1) := by rw [List.take_take, Nat.min_eq_left (by omega)]
  rw [e, List.take_append_drop]
theorem catU_size (us : List Up) : ∀ n, n ≤ us.length → (∀ i, i < n → mayE (us.getD i up0) = 0) → (catU (us.take n)).size ≤ 100 * n
  | 0, _, _ => by simp only [List.take_zero, catU]; show 0 ≤ _; omega
  | n + 1, h, hm => by
    rw [catU_step us n (by omega), ByteArray.size_append]
    have h1 := catU_size us n (by omega) (fun i hi => hm i (by omega))
    have h2 := pxU_size _ (hm n (by omega))
    omega
/-- What is read at a place of updates that were written one behind the other. -/
theorem parts_read (us : List Up) (more : ByteArray) (n k : Nat) (h : k < n) (hn : n ≤ us.length) (hm : ∀ i, i < n → mayE (us.getD i up0) = 0) :
    updR (catU (us.take n) ++ more) (catU (us.take k)).size 0 = (us.getD k up0, (catU (us.take (k + 1))).size, 0) := by
  obtain ⟨post, hp⟩ := catU_split us n k h hn
  rw [hp, ByteArray.append_assoc, rd_u _ _ _ (hm k h), catU_step us k (by omega), ByteArray.size_append]
/-- The writer, within the first loop. -/
structure P1 (w wr : World) (bw : Nat) (s : ByteArray) : Prop where
  pos : 0 < w.heap.size
  lo : w.heap.size ≤ bw
  gat : ∃ v, Wr wr (bw + 1) bw v s false
  d : Wd wr
  bel : Below w.heap.size w wr
theorem P1.start {w w1 : World} (hd : Wd w) (hb : Below w.heap.size w w1) : P1 w (w1.alloc (.cells #[.slice none 0 0, .bool false] 51)) w1.heap.size ⟨#[]⟩ :=
  ⟨hd.pos, hb.size, ⟨_, wr_new w1⟩, (hd.below hb).alloc _, hb.alloc hb.size _⟩
theorem P1.below {w wr w' : World} {bw : Nat} {s : ByteArray} (h : P1 w wr bw s) (hb : Below wr.heap.size wr w') : P1 w w' bw s := by
  obtain ⟨v, hv⟩ := h.gat
  exact ⟨h.pos, h.lo, ⟨v, hv.below hb⟩, h.d.below hb, Below.next h.bel hb⟩
theorem P1.wrote {w wr w' : World} {bw : Nat} {s s' : ByteArray} (h : P1 w wr bw s) (hw : ∃ v, Wr w' (bw + 1) bw v s' false) (hf : Fr (bw + 1) bw wr w') : P1 w w' bw s' :=
  have h0 := h.pos
  have h1 := h.lo
  ⟨h.pos, h.lo, hw, h.d.fr hf (by omega) (by omega), Fr.below h.bel hf h.lo (by omega)⟩
theorem rm_new (w : World) (s : ByteArray) : Rm (w.alloc (.cells #[.string s, .int .i64 0, .int .i64 0] 69)) w.heap.size s 0 0 := heap_alloc_new w _
theorem Rd.drew {w : World} {b : Nat} {rest : ByteArray} {err : Int} (h : Rd w b rest err) : Rd w.drew b rest err := h
theorem Rm.drew {w : World} {b : Nat} {B : ByteArray} {At : Nat} {E : Int} (h : Rm w b B At E) : Rm w.drew b B At E := h
theorem undrew {w w' : World} {row : Option Nat} (h : w.drew.grownBy w' row) : w.grownBy w' row := ⟨h.os, h.tape, h.output, h.size, h.block⟩
/-- The cells of the row's next update. -/
theorem cells_of {w wr : World} {a : Option Addr} {len k : Nat} {us : List Up} (h : IsUs w a len us) (hb : Below w.heap.size w wr) (hk : k < len) : ∃ b off, a = some ⟨b, off, none⟩ ∧ b < w.heap.size ∧ wr.cell? ⟨b, off + k * 4, none⟩ = some (.string (us.getD k up0).1) ∧ wr.cell? ⟨b, off + k * 4 + 1, none⟩ = some (.int .i64 (us.getD k up0).2.1) ∧ wr.cell? ⟨b, off + k * 4 + 2, none⟩ = some (.int .i64 (us.getD k up0).2.2.1) ∧ wr.cell? ⟨b, off + k * 4 + 3, none⟩ = some (.string (us.getD k up0).2.2.2) := by
  obtain ⟨b, off, rfl, hf⟩ := h.lies (by omega)
  have hs := h.size
  have hl := hf.lt (by omega)
  exact ⟨b, off, rfl, hl, (hb.cell hl).trans (hf.key k (by omega)), (hb.cell hl).trans (hf.k k (by omega)), (hb.cell hl).trans (hf.n k (by omega)), (hb.cell hl).trans (hf.t k (by omega))⟩
theorem row_cells {w wr : World} {b off k : Nat} {us : List Up} {uk ut : ByteArray} {ux un : Int} (hu : us.getD k up0 = (uk, ux, un, ut)) (hf : Us w b off us) (hl : b < w.heap.size) (hk : k < us.length) (hb : Below w.heap.size w wr) : wr.cell? ⟨b, off + k * 4, none⟩ = some (.string uk) ∧ wr.cell? ⟨b, off + k * 4 + 1, none⟩ = some (.int .i64 ux) ∧ wr.cell? ⟨b, off + k * 4 + 2, none⟩ = some (.int .i64 un) ∧ wr.cell? ⟨b, off + k * 4 + 3, none⟩ = some (.string ut) := by
  have h0 := (hb.cell hl).trans (hf.key k hk)
  have h1 := (hb.cell hl).trans (hf.k k hk)
  have h2 := (hb.cell hl).trans (hf.n k hk)
  have h3 := (hb.cell hl).trans (hf.t k hk)
  rw [hu] at h0 h1 h2 h3
  exact ⟨h0, h1, h2, h3⟩
theorem wrap_small {x : Int} (h0 : 0 ≤ x) (h1 : x ≤ 1000000) : IntKind.i64.wrap x = x := by
  first
    | (show wrap64 x = x; unfold wrap64; omega)
    | (simp [IntKind.wrap, IntKind.bits]; omega)
    | (unfold IntKind.wrap; simp [IntKind.bits, IntKind.signed]; omega)
end Go.Proofs.YtcknklodnfabpaaDoor
