/- Plain mathematics: updates that are put and got, got and put, and cut. -/
import Derived.Test.YtpdpmdbdnpemnaaDoorUB
import Derived.Test.YtpdpmdbdnpemnaaDoorUG
namespace Go.Proofs.YtpdpmdbdnpemnaaDoor
open Go
theorem ext_join (B : ByteArray) (i j k : Nat) (h1 : i ≤ j) (h2 : j ≤ k) (h3 : k ≤ B.size) : B.extract i j ++ B.extract j k = B.extract i k := by
  apply eq_of_byt
  · simp only [ByteArray.size_append, ByteArray.size_extract]; omega
  · intro p hp
    have hp' : p < k - i := by simp only [ByteArray.size_append, ByteArray.size_extract] at hp; omega
    have hs : (B.extract i j).size = j - i := by simp only [ByteArray.size_extract]; omega
    rw [byt_extract B i k p h3 hp']
    rcases Nat.lt_or_ge p (j - i) with hq | hq
    · rw [byt_left _ _ _ (by omega), byt_extract B i j p (by omega) hq]
    · obtain ⟨q, rfl⟩ : ∃ q, p = (B.extract i j).size + q := ⟨p - (j - i), by omega⟩
      rw [byt_right _ _ _ (by simp only [ByteArray.size_extract]; omega), byt_extract B j k q h3 (by omega), hs]
      congr 1
      omega
theorem ext_all (B : ByteArray) : B.extract 0 B.size = B := by
  apply eq_of_byt
  · simp
  · intro p hp
    have hp' : p < B.size := by simp at hp; omega
    rw [byt_extract B 0 B.size p (Nat.le_refl _) (by omega), Nat.zero_add]
/-- What was put is got. -/
theorem pxN_put (n : Int) (h : okN n) : pxN n = strOfNums (putS n) := if_pos h
theorem pxS_put (n : Int) (h : okS n) : pxS n = strOfNums (putS (zigS n)) := if_pos h
theorem bd16 : bd 16 = 16 := by decide
theorem bd32 : bd 32 = 32 := by decide
theorem rd_u (x y : ByteArray) (u : Up) (hu : mayE u = 0) : updR (x ++ pxU u ++ y) x.size 0 = (u, x.size + (pxU u).size, 0) := by
  obtain ⟨key, k, n, t⟩ := u
  obtain ⟨k1, k2, hk⟩ := may_ok _ hu
  simp only at k1 k2 hk
  have hkN : okN k := by unfold okN; omega
  have hkb : 1 ≤ k ∧ k ≤ 5 := by omega
  have hsz : (pxU (key, k, n, t)).size = (pxN k).size + (pxT key).size + (pxK (key, k, n, t)).size := by unfold pxU; simp only [ByteArray.size_append]
  have hB1 : x ++ pxU (key, k, n, t) ++ y = x ++ strOfNums (putS k) ++ (pxT key ++ pxK (key, k, n, t) ++ y) := by
    unfold pxU; simp only [pxN_put k hkN, ByteArray.append_assoc]
  have hB2 : x ++ pxU (key, k, n, t) ++ y = (x ++ pxN k) ++ pxT key ++ (pxK (key, k, n, t) ++ y) := by
    unfold pxU; simp only [ByteArray.append_assoc]
  have hB3 : x ++ pxU (key, k, n, t) ++ y = (x ++ pxN k ++ pxT key) ++ pxK (key, k, n, t) ++ y := by
    unfold pxU; simp only [ByteArray.append_assoc]
  have hs1 : x.size ≤ (x ++ pxU (key, k, n, t) ++ y).size := by simp only [ByteArray.size_append]; omega
  obtain ⟨r1, r2, r3⟩ := rd_raw x (pxT key ++ pxK (key, k, n, t) ++ y) k hkN
  rw [← hB1] at r1 r2 r3
  rw [← pxN_put k hkN] at r2
  obtain ⟨n1, n2⟩ := (num_of _ x.size 5 _ hs1 r1 r3).1 (by rw [bd5]; omega)
  obtain ⟨t1, t2, t3⟩ := rd_txt (x ++ pxN k) (pxK (key, k, n, t) ++ y) key 16 (by omega) (by rw [bd16]; omega)
  rw [← hB2, show (x ++ pxN k).size = x.size + (pxN k).size from ByteArray.size_append] at t1 t2 t3
  have hz : (x ++ pxN k ++ pxT key).size = x.size + (pxN k).size + (pxT key).size := by simp only [ByteArray.size_append]
  rcases hk with ⟨hk, hn, rfl⟩ | ⟨hk, rfl, ht⟩ | ⟨rfl, rfl, rfl⟩
  · have e3 : pxK (key, k, n, ⟨#[]⟩) = strOfNums (putS (zigS n)) := by unfold pxK; simp only; rw [if_pos hk, pxS_put n hn]
    obtain ⟨q1, q2, q3⟩ := rd_raw (x ++ pxN k ++ pxT key) y (zigS n) (zig_bd n hn)
    rw [← e3, ← hB3, hz] at q1 q2 q3
    have hc := UpdC.f (B := x ++ pxU (key, k, n, ⟨#[]⟩) ++ y) (At := x.size) (E := 0) _ _ r2 t2 k hk n2 n1 t3 key t1 (by omega) q3
    rw [updR_of hc]
    have es : sgnV (x ++ pxU (key, k, n, ⟨#[]⟩) ++ y) (x.size + (pxN k).size + (pxT key).size) 0 = n := by
      unfold sgnV; rw [if_neg (by simp [q3]), q1, zag_zig]
    rw [es, q2, hsz]
    simp only [Nat.add_assoc]
  · have e3 : pxK (key, k, 0, t) = pxT t := by unfold pxK; simp only; rw [if_neg (by omega), if_pos hk]
    obtain ⟨q1, q2, q3⟩ := rd_txt (x ++ pxN k ++ pxT key) y t 32 (by omega) (by rw [bd32]; omega)
    rw [← e3, ← hB3, hz] at q1 q2 q3
    have hc := UpdC.h (B := x ++ pxU (key, k, 0, t) ++ y) (At := x.size) (E := 0) _ _ r2 t2 k hk n2 n1 t3 key t1 (by omega) q3
    rw [updR_of hc, q1, q2, hsz]
    simp only [Nat.add_assoc]
  · have e3 : (pxK (key, 5, 0, ⟨#[]⟩)).size = 0 := rfl
    have hc := UpdC.i (B := x ++ pxU (key, 5, 0, ⟨#[]⟩) ++ y) (At := x.size) (E := 0) _ _ r2 t2 n2 n1 t3 key t1 (by omega)
    rw [updR_of hc, hsz, e3]
    simp only [Nat.add_assoc, Nat.add_zero]
theorem upd_back (u : Up) (hu : mayE u = 0) : updR (pxU u) 0 0 = (u, (pxU u).size, 0) := by
  have h := rd_u ⟨#[]⟩ ⟨#[]⟩ u hu
  rw [emp_app, app_empty] at h
  rw [show (⟨#[]⟩ : ByteArray).size = 0 from rfl, Nat.zero_add] at h
  exact h
theorem back_get (u : Up) (hu : mayE u = 0) : getE (pxU u) = 0 ∧ getU (pxU u) = u := by
  have h := upd_back u hu
  have e : getE (pxU u) = 0 := by unfold getE; rw [h]; exact end_all _
  exact ⟨e, by unfold getU; rw [if_neg (by simp [e]), h]⟩
theorem putS_one (n : Int) (_h0 : 0 ≤ n) (h : n < 64) : (putS n).length = 1 := by
  unfold putS
  rw [if_pos h]
  rfl
theorem pxN_one (n : Int) (h0 : 0 ≤ n) (h : n < 64) : (pxN n).size = 1 := by
  rw [pxN_put n (by unfold okN; omega), strOfNums_size, putS_one n h0 h]
theorem pxT_one (t : ByteArray) (h : t.size < 64) : (pxT t).size = 1 + t.size := by
  unfold pxT
  rw [ByteArray.size_append, strOfNums_size, putS_one _ (by omega) (by omega)]
theorem pxU_52 (u : Up) (hu : mayE u = 0) : (pxU u).size ≤ 52 := by
  obtain ⟨h1, h2, h3⟩ := may_ok u hu
  unfold pxU
  simp only [ByteArray.size_append]
  rw [pxN_one _ (by omega) (by omega), pxT_one _ (by omega)]
  have z3 : (pxK u).size ≤ 33 := by
    unfold pxK
    split
    · have := pxS_size u.2.2.1; omega
    · split
      · rename_i ha hb
        have ht : u.2.2.2.size ≤ 32 := by
          rcases h3 with ⟨a, _⟩ | ⟨_, _, c⟩ | ⟨a, _⟩
          · exact absurd a ha
          · exact c
          · omega
        rw [pxT_one _ (by omega)]; omega
      · show 0 ≤ 33; omega
  omega
/-- What is got is put as it was. -/
theorem got_raw (B : ByteArray) (At : Nat) (hA : At ≤ B.size) (h : rawE B At 0 = 0) : okN (rawV B At 0) ∧ strOfNums (putS (rawV B At 0)) = B.extract At (rawA B At 0) ∧ At ≤ rawA B At 0 ∧ rawA B At 0 ≤ B.size := by
  rcases raw3 B At 0 hA with ⟨h0, _⟩ | ⟨_, e, he, _, _, _, _, _, _, hEE⟩ | ⟨_, N, W, h1, h2, h3, h4, h5, _, hg, _, hV, hAA, _⟩
  · exact absurd rfl h0
  · omega
  · rw [hV, hAA]
    refine ⟨⟨h4, h5⟩, ?_, by omega, h3⟩
    obtain ⟨W', _, _, _, _, hw, hp⟩ := putS_got (B.extract At B.size) (by rw [hg])
    rw [hg] at hw hp
    simp only at hw hp
    obtain rfl : W = W' := by omega
    rw [hp, rst_text B At W h3]
theorem got_num (B : ByteArray) (At : Nat) (m : Int) (hA : At ≤ B.size) (h : numE B At 0 m = 0) : rawE B At 0 = 0 ∧ numV B At 0 m = rawV B At 0 ∧ rawV B At 0 ≤ bd m := by
  rcases num3 B At 0 m hA with ⟨h1, _, _, h4⟩ | ⟨_, _, _, h4⟩ | ⟨h1, h2, h3, _⟩
  · rw [h4] at h; exact absurd h h1
  · omega
  · exact ⟨h1, h3, h2⟩
theorem got_txt (B : ByteArray) (At : Nat) (m : Int) (hA : At ≤ B.size) (h : txtE B At 0 m = 0) : pxT (txtV B At 0 m) = B.extract At (txtA B At 0 m) ∧ ((txtV B At 0 m).size : Int) ≤ bd m ∧ At ≤ txtA B At 0 m ∧ txtA B At 0 m ≤ B.size := by
  rcases txt3 B At 0 m hA with ⟨h1, _, h3, _⟩ | ⟨_, _, h3, _⟩ | ⟨h1, n, h2, h3, h4, h5, h6⟩
  · rw [h3] at h; exact absurd h h1
  · omega
  · obtain ⟨r1, r2, r3⟩ := got_num B At m hA h1
    obtain ⟨_, q2, q3, q4⟩ := got_raw B At hA r1
    have hs : (txtV B At 0 m).size = n := by rw [h6]; simp only [ByteArray.size_extract]; omega
    refine ⟨?_, by rw [hs, ← h2, r2]; exact r3, by omega, by omega⟩
    unfold pxT
    rw [hs, ← h2, r2, q2, h6, h5]
    exact ext_join B _ _ _ q3 (by omega) h3
theorem zig_zag (v : Int) (h0 : 0 ≤ v) : zigS (zagS v) = v := by
  unfold zagS zigS
  split <;> split <;> omega
theorem zag_ok (v : Int) (h0 : 0 ≤ v) (h1 : v < 4611686018427387904) : okS (zagS v) := by
  unfold zagS okS
  split <;> omega
theorem got_sgn (B : ByteArray) (At : Nat) (hA : At ≤ B.size) (h : rawE B At 0 = 0) : okS (sgnV B At 0) ∧ pxS (sgnV B At 0) = B.extract At (rawA B At 0) ∧ At ≤ rawA B At 0 ∧ rawA B At 0 ≤ B.size := by
  obtain ⟨q1, q2, q3, q4⟩ := got_raw B At hA h
  have e : sgnV B At 0 = zagS (rawV B At 0) := by unfold sgnV; rw [if_neg (by simp [h])]
  have ho := zag_ok _ q1.1 q1.2
  rw [e]
  exact ⟨ho, by rw [pxS_put _ ho, zig_zag _ q1.1, q2], q3, q4⟩
theorem got_upd (B : ByteArray) (At : Nat) (hA : At ≤ B.size) (u : Up) (A : Nat) (h : updR B At 0 = (u, A, 0)) : mayE u = 0 ∧ pxU u = B.extract At A ∧ At ≤ A ∧ A ≤ B.size := by
  have hc := updC B At 0 hA
  rw [h] at hc
  have key : ∀ A1 A2 k y, rawA B At 0 = A1 → txtA B A1 0 16 = A2 → numE B At 0 5 = 0 → numV B At 0 5 = k → txtE B A1 0 16 = 0 → txtV B A1 0 16 = y → pxN k ++ pxT y = B.extract At A2 ∧ y.size ≤ 16 ∧ At ≤ A2 ∧ A2 ≤ B.size := by
    rintro A1 A2 k y rfl rfl h1 rfl h3 rfl
    obtain ⟨r1, r2, _⟩ := got_num B At 5 hA h1
    obtain ⟨q1, q2, q3, q4⟩ := got_raw B At hA r1
    obtain ⟨t1, t2, t3, t4⟩ := got_txt B _ 16 q4 h3
    rw [bd16] at t2
    refine ⟨?_, by omega, by omega, t4⟩
    rw [r2, pxN_put _ q1, q2, t1]
    exact ext_join B _ _ _ q3 t3 t4
  generalize hr : (u, A, (0 : Int)) = r at hc
  cases hc with
  | a h1 => exact absurd (Prod.mk.inj (Prod.mk.inj hr).2).2.symm h1
  | b => exact absurd (Prod.mk.inj (Prod.mk.inj hr).2).2 (by decide)
  | c A1 e1 k hk h1 h2 h3 => exact absurd (Prod.mk.inj (Prod.mk.inj hr).2).2.symm h3
  | d => exact absurd (Prod.mk.inj (Prod.mk.inj hr).2).2 (by decide)
  | e A1 A2 e1 e2 k hk h1 h2 h3 y h4 hy h5 => exact absurd (Prod.mk.inj (Prod.mk.inj hr).2).2.symm h5
  | g A1 A2 e1 e2 k hk h1 h2 h3 y h4 hy h5 => exact absurd (Prod.mk.inj (Prod.mk.inj hr).2).2.symm h5
  | f A1 A2 e1 e2 k hk h1 h2 h3 y h4 hy h5 =>
    obtain ⟨rfl, hr2⟩ := Prod.mk.inj hr
    obtain ⟨rfl, _⟩ := Prod.mk.inj hr2
    obtain ⟨a1, a2, a3, a4⟩ := key A1 A2 k y e1 e2 h1 h2 h3 h4
    obtain ⟨s1, s2, s3, s4⟩ := got_sgn B A2 a4 h5
    refine ⟨ok_may _ (by show 1 ≤ y.size; omega) a2 (.inl ⟨hk, s1, rfl⟩), ?_, by omega, s4⟩
    rw [pxU_1 _ _ _ _ hk, a1, s2]
    exact ext_join B _ _ _ a3 s3 s4
  | h A1 A2 e1 e2 k hk h1 h2 h3 y h4 hy h5 =>
    obtain ⟨rfl, hr2⟩ := Prod.mk.inj hr
    obtain ⟨rfl, _⟩ := Prod.mk.inj hr2
    obtain ⟨a1, a2, a3, a4⟩ := key A1 A2 k y e1 e2 h1 h2 h3 h4
    obtain ⟨s1, s2, s3, s4⟩ := got_txt B A2 32 a4 h5
    rw [bd32] at s2
    refine ⟨ok_may _ (by show 1 ≤ y.size; omega) a2 (.inr (.inl ⟨hk, rfl, by show (txtV B A2 0 32).size ≤ 32; omega⟩)), ?_, by omega, s4⟩
    rw [pxU_2 _ _ _ _ hk, a1, s1]
    exact ext_join B _ _ _ a3 s3 s4
  | i A1 A2 e1 e2 h1 h2 h3 y h4 hy =>
    obtain ⟨rfl, hr2⟩ := Prod.mk.inj hr
    obtain ⟨rfl, _⟩ := Prod.mk.inj hr2
    obtain ⟨a1, a2, a3, a4⟩ := key A1 A 5 y e1 e2 h1 h2 h3 h4
    exact ⟨ok_may _ (by show 1 ≤ y.size; omega) a2 (.inr (.inr ⟨rfl, rfl, rfl⟩)), by rw [pxU_5, a1], a3, a4⟩
theorem one_get (s : ByteArray) (h : getE s = 0) : mayE (getU s) = 0 ∧ putB (getU s) = s := by
  have hA := updA_le s 0 0 (Nat.zero_le _)
  have e1 : getU s = (updR s 0 0).1 := by unfold getU; rw [if_neg (by simp [h])]
  unfold getE at h
  obtain ⟨⟨u, A, E⟩, hr⟩ : ∃ r, updR s 0 0 = r := ⟨_, rfl⟩
  rw [hr] at h hA e1
  simp only at h hA e1
  have hE : E = 0 := by
    unfold endE at h
    split at h
    · rename_i hx; exact absurd h hx
    · omega
  subst hE
  have hAs : A = s.size := by
    unfold endE at h
    rw [if_neg (by simp)] at h
    split at h
    · exact absurd h (by decide)
    · omega
  subst hAs
  obtain ⟨g1, g2, _, _⟩ := got_upd s 0 (Nat.zero_le _) u s.size hr
  rw [e1]
  exact ⟨g1, by unfold putB; rw [if_pos g1, g2, ext_all]⟩
end Go.Proofs.YtpdpmdbdnpemnaaDoor
