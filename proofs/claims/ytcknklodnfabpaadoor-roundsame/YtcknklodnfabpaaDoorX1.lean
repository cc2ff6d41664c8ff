/- Plain mathematics: rounds that are put and got, got and put, cut, and longer. -/
import Derived.Test.YtcknklodnfabpaaDoorX0
namespace Go.Proofs.YtcknklodnfabpaaDoor
open Go
theorem rdn (x y : ByteArray) (n m : Int) (hn : 1 ≤ n) (hm : n ≤ bd m) (h2 : n ≤ 1099511627776) : numV (x ++ pxN n ++ y) x.size 0 m = n ∧ rawA (x ++ pxN n ++ y) x.size 0 = x.size + (pxN n).size ∧ hdE (x ++ pxN n ++ y) x.size 0 m = 0 := by
  have ok : okN n := by unfold okN; omega
  obtain ⟨r1, r2, r3⟩ := rd_raw x y n ok
  rw [← pxN_put n ok] at r1 r2 r3
  have hs : x.size ≤ (x ++ pxN n ++ y).size := by simp only [ByteArray.size_append]; omega
  obtain ⟨n1, n2⟩ := (num_of _ x.size m _ hs r1 r3).1 hm
  exact ⟨n1, r2, hdE_of _ _ _ n2 (by rw [n1]; omega)⟩
/-- What stands at the front, whatever stands behind. -/
theorem rd_head (o n : Int) (k : Nat) (h : headOk o n k) (y : ByteArray) :
    numV (pxH o n k ++ y) 0 0 64 = o ∧ e1 (pxH o n k ++ y) = 0 ∧ numV (pxH o n k ++ y) (a1 (pxH o n k ++ y)) (e1 (pxH o n k ++ y)) 1099511627776 = n ∧ e2 (pxH o n k ++ y) = 0 ∧ k3 (pxH o n k ++ y) = k ∧ a3 (pxH o n k ++ y) = (pxH o n k).size ∧ e3 (pxH o n k ++ y) = 0 := by
  unfold headOk at h
  have b1 := bd64
  have b2 := bd40
  have b3 := bd8
  have hB1 : pxH o n k ++ y = ⟨#[]⟩ ++ pxN o ++ (pxN n ++ pxN (k : Int) ++ y) := by unfold pxH; rw [emp_app]; simp only [ByteArray.append_assoc]
  have hB2 : pxH o n k ++ y = pxN o ++ pxN n ++ (pxN (k : Int) ++ y) := by unfold pxH; simp only [ByteArray.append_assoc]
  have hB3 : pxH o n k ++ y = (pxN o ++ pxN n) ++ pxN (k : Int) ++ y := by unfold pxH; rfl
  obtain ⟨p1, p2, p3⟩ := rdn ⟨#[]⟩ (pxN n ++ pxN (k : Int) ++ y) o 64 h.1 (by omega) (by omega)
  obtain ⟨q1, q2, q3⟩ := rdn (pxN o) (pxN (k : Int) ++ y) n 1099511627776 h.2.2.1 (by omega) (by omega)
  obtain ⟨r1, r2, r3⟩ := rdn (pxN o ++ pxN n) y (k : Int) 8 (by omega) (by omega) (by omega)
  rw [← hB1] at p1 p2 p3
  rw [← hB2] at q1 q2 q3
  rw [← hB3] at r1 r2 r3
  rw [show (⟨#[]⟩ : ByteArray).size = 0 from rfl] at p1 p2 p3
  rw [Nat.zero_add] at p2
  have w1 : a1 (pxH o n k ++ y) = (pxN o).size := p2
  have w2 : e1 (pxH o n k ++ y) = 0 := p3
  have w3 : a2 (pxH o n k ++ y) = (pxN o ++ pxN n).size := by unfold a2; rw [w1, w2, q2, ByteArray.size_append]
  have w4 : e2 (pxH o n k ++ y) = 0 := by unfold e2; rw [w1, w2, q3]
  refine ⟨p1, w2, by rw [w1, w2, q1], w4, ?_, ?_, ?_⟩
  · unfold k3; rw [w3, w4, r1]; omega
  · unfold a3; rw [w3, w4, r2]; unfold pxH; simp only [ByteArray.size_append]
  · unfold e3; rw [w3, w4, r3]
/-- .. and behind it so many updates. -/
theorem rd_ups (H : ByteArray) (us : List Up) (hm : ∀ i, i < us.length → mayE (us.getD i up0) = 0) : ∀ (j : Nat) (y : ByteArray), j ≤ us.length →
    updsR (H ++ catU (us.take j) ++ y) j H.size 0 = (us.take j, (H ++ catU (us.take j)).size, 0)
  | 0, y, _ => by
    show (([] : List Up), H.size, (0 : Int)) = _
    simp only [List.take_zero, catU, app_empty]
  | j + 1, y, hj => by
    have hs := catU_step us j (by omega)
    have hB : H ++ catU (us.take (j + 1)) ++ y = H ++ catU (us.take j) ++ (pxU (us.getD j up0) ++ y) := by rw [hs]; simp only [ByteArray.append_assoc]
    have ih := rd_ups H us hm j (pxU (us.getD j up0) ++ y) (by omega)
    rw [← hB] at ih
    have hu := rd_u (H ++ catU (us.take j)) y (us.getD j up0) (hm j (by omega))
    rw [show H ++ catU (us.take j) ++ pxU (us.getD j up0) ++ y = H ++ catU (us.take (j + 1)) ++ y by rw [hB]; simp only [ByteArray.append_assoc]] at hu
    show ((updsR _ j H.size 0).1 ++ [(updR _ (updsR _ j H.size 0).2.1 (updsR _ j H.size 0).2.2).1], (updR _ (updsR _ j H.size 0).2.1 (updsR _ j H.size 0).2.2).2) = _
    rw [ih]
    simp only
    rw [hu, utake_step us j (by omega), catU_append]
    simp only [catU, app_empty, ByteArray.size_append, Nat.add_assoc]
theorem rd_all (o n : Int) (us : List Up) (h : mayR o n us = 0) (y : ByteArray) : getUs (pxR o n us ++ y) = (us, (pxR o n us).size, 0) := by
  obtain ⟨h1, h2⟩ := mayR_zero h
  have e : pxR o n us ++ y = pxH o n us.length ++ (catU us ++ y) := by unfold pxR; rw [ByteArray.append_assoc]
  obtain ⟨_, _, _, _, r5, r6, r7⟩ := rd_head o n us.length h1 (catU us ++ y)
  have hu := rd_ups (pxH o n us.length) us (mayL_zero us h2) us.length y (Nat.le_refl _)
  rw [List.take_length] at hu
  unfold getUs
  rw [e, r5, r6, r7, ← e]
  exact hu
theorem end_more' (p y : ByteArray) (h : 0 < y.size) : endE (p ++ y) p.size 0 = 4 := by
  unfold endE
  rw [if_neg (by simp), if_pos (by rw [ByteArray.size_append]; omega)]
theorem back_r (o n : Int) (us : List Up) (h : mayR o n us = 0) : geE (pxR o n us) = 0 ∧ geO (pxR o n us) = o ∧ geN (pxR o n us) = n ∧ geL (pxR o n us) = us := by
  have hg := rd_all o n us h ⟨#[]⟩
  rw [app_empty] at hg
  have e0 : geE (pxR o n us) = 0 := by unfold geE; rw [hg]; exact end_all _
  obtain ⟨h1, _⟩ := mayR_zero h
  obtain ⟨r1, _, r3, _⟩ := rd_head o n us.length h1 (catU us)
  refine ⟨e0, ?_, ?_, ?_⟩
  · unfold geO; rw [if_neg (by simp [e0])]; exact r1
  · unfold geN; rw [if_neg (by simp [e0])]; exact r3
  · unfold geL; rw [if_neg (by simp [e0]), hg]
theorem more_r (o n : Int) (us : List Up) (h : mayR o n us = 0) (y : ByteArray) (hy : 0 < y.size) : geE (pxR o n us ++ y) = 4 := by
  unfold geE
  rw [rd_all o n us h y]
  exact end_more' _ _ hy
/-- Bytes that are got are a round's that may be, as it is put. -/
theorem got_hd (s : ByteArray) (A : Nat) (m : Int) (hA : A ≤ s.size) (h : hdE s A 0 m = 0) : 1 ≤ numV s A 0 m ∧ numV s A 0 m ≤ bd m ∧ pxN (numV s A 0 m) = s.extract A (rawA s A 0) ∧ A ≤ rawA s A 0 ∧ rawA s A 0 ≤ s.size := by
  obtain ⟨h1, h2⟩ := hdE_zero s A m hA h
  obtain ⟨r1, r2, r3⟩ := got_num s A m hA h1
  obtain ⟨q1, q2, q3, q4⟩ := got_raw s A hA r1
  exact ⟨by omega, by omega, by rw [r2, pxN_put _ q1, q2], q3, q4⟩
theorem got_ups (s : ByteArray) (A : Nat) (hA : A ≤ s.size) : ∀ k, (updsR s k A 0).2.2 = 0 → (∀ i, i < k → mayE ((updsR s k A 0).1.getD i up0) = 0) ∧ catU (updsR s k A 0).1 = s.extract A (updsR s k A 0).2.1 ∧ A ≤ (updsR s k A 0).2.1 ∧ (updsR s k A 0).2.1 ≤ s.size
  | 0, _ => by
    refine ⟨fun i hi => absurd hi (by omega), ?_, Nat.le_refl _, hA⟩
    show (⟨#[]⟩ : ByteArray) = s.extract A A
    apply eq_of_byt
    · simp; rfl
    · intro i hi; exact absurd hi (by show ¬ i < 0; omega)
  | k + 1, h => by
    have h0 : (updsR s k A 0).2.2 = 0 := by
      rcases Classical.em ((updsR s k A 0).2.2 = 0) with hx | hx
      · exact hx
      · have := updsR_stays s k (k + 1) A 0 hx (by omega)
        rw [this] at h
        exact h
    obtain ⟨i1, i2, i3, i4⟩ := got_ups s A hA k h0
    have hl := updsR_len s k A 0
    have hS : updsR s (k + 1) A 0 = ((updsR s k A 0).1 ++ [(updR s (updsR s k A 0).2.1 0).1], (updR s (updsR s k A 0).2.1 0).2) := by
      rw [show updsR s (k + 1) A 0 = ((updsR s k A 0).1 ++ [(updR s (updsR s k A 0).2.1 (updsR s k A 0).2.2).1], (updR s (updsR s k A 0).2.1 (updsR s k A 0).2.2).2) from rfl, h0]
    rw [hS] at h ⊢
    simp only at h ⊢
    generalize updsR s k A 0 = r at *
    obtain ⟨l, P, E⟩ := r
    simp only at *
    obtain ⟨⟨u, Q, F⟩, hq⟩ : ∃ q, updR s P 0 = q := ⟨_, rfl⟩
    rw [hq] at h ⊢
    simp only at h ⊢
    subst h
    obtain ⟨g1, g2, g3, g4⟩ := got_upd s P i4 u Q hq
    refine ⟨fun i hi => ?_, ?_, by omega, g4⟩
    · rcases Nat.lt_or_ge i k with hx | hx
      · have := i1 i hx
        rw [List.getD_eq_getElem?_getD, List.getElem?_append_left (by omega), ← List.getD_eq_getElem?_getD]
        exact this
      · obtain rfl : i = k := by omega
        rw [List.getD_eq_getElem?_getD, List.getElem?_append_right (by omega), hl, Nat.sub_self]
        exact g1
    · rw [catU_append, i2]
      simp only [catU, app_empty]
      rw [g2]
      exact ext_join s _ _ _ i3 g3 g4
theorem one_r (s : ByteArray) (h : geE s = 0) : mayR (geO s) (geN s) (geL s) = 0 ∧ pxR (geO s) (geN s) (geL s) = s := by
  have h1 : e1 s = 0 := by
    rcases Classical.em (e1 s = 0) with hx | hx
    · exact hx
    · rw [geE_1 s hx] at h; exact h
  have h2 : e2 s = 0 := by
    rcases Classical.em (e2 s = 0) with hx | hx
    · exact hx
    · rw [geE_2 s hx] at h; exact h
  have h3 : e3 s = 0 := by
    rcases Classical.em (e3 s = 0) with hx | hx
    · exact hx
    · rw [geE_3 s hx] at h; exact h
  have r1 : geO s = numV s 0 0 64 := if_neg (by simp [h])
  have r2 : geN s = numV s (a1 s) (e1 s) 1099511627776 := if_neg (by simp [h])
  have r3 : geL s = (getUs s).1 := if_neg (by simp [h])
  have hE : (getUs s).2.2 = 0 := by
    rcases Classical.em ((getUs s).2.2 = 0) with hx | hx
    · exact hx
    · have := endE_dead s (getUs s).2.1 _ hx
      unfold geE at h
      rw [this] at h
      exact h
  obtain ⟨o1, o2, o3, o4, o5⟩ := got_hd s 0 64 (Nat.zero_le _) h1
  have hn : hdE s (a1 s) 0 1099511627776 = 0 := by have := h2; unfold e2 at this; rw [h1] at this; exact this
  obtain ⟨n1, n2, n3, n4, n5⟩ := got_hd s (a1 s) 1099511627776 (a1_le s) hn
  have hk : hdE s (a2 s) 0 8 = 0 := by have := h3; unfold e3 at this; rw [h2] at this; exact this
  obtain ⟨k1, k2, k3', k4, k5⟩ := got_hd s (a2 s) 8 (a2_le s) hk
  have w2 : a2 s = rawA s (a1 s) 0 := by unfold a2; rw [h1]
  have w3 : a3 s = rawA s (a2 s) 0 := by unfold a3; rw [h2]
  have hK := k3_le s
  rw [h2] at hK
  have hU : getUs s = updsR s (k3 s) (a3 s) 0 := by unfold getUs; rw [h3]
  rw [hU] at hE
  obtain ⟨u1, u2, u3, u4⟩ := got_ups s (a3 s) (a3_le s) (k3 s) hE
  have hl := updsR_len s (k3 s) (a3 s) 0
  have hA : (updsR s (k3 s) (a3 s) 0).2.1 = s.size := by
    unfold geE at h
    rw [hU, hE] at h
    unfold endE at h
    rw [if_neg (by simp)] at h
    split at h
    · exact absurd h (by decide)
    · omega
  rw [bd64] at o2
  rw [bd40] at n2
  have hmay : mayR (geO s) (geN s) (geL s) = 0 := by
    have hh : headOk (geO s) (geN s) (geL s).length := by
      rw [r1, r2, r3, hU, hl, h1]
      unfold headOk
      refine ⟨o1, o2, n1, n2, ?_, hK.2⟩
      have := hK.1
      omega
    rw [mayR_yes hh]
    refine mayL_of _ fun i hi => ?_
    rw [r3, hU] at hi ⊢
    exact u1 i (by omega)
  refine ⟨hmay, ?_⟩
  unfold pxR pxH
  rw [r3, hU, hl, ← hK.1, r1, r2, h1, o3, n3, k3', u2, hA, ← w3, ← w2]
  rw [show rawA s 0 0 = a1 s from rfl]
  rw [ext_join s 0 (a1 s) (a2 s) (Nat.zero_le _) (by rw [w2]; exact n4) (a2_le s), ext_join s 0 (a2 s) (a3 s) (Nat.zero_le _) (by rw [w3]; exact k4) (a3_le s), ext_join s 0 (a3 s) s.size (Nat.zero_le _) (a3_le s) (Nat.le_refl _), ext_all]
/-- A beginning that isn't all. -/
theorem cut_left (p y : ByteArray) (c : Nat) (h1 : p.size ≤ c) (h2 : c ≤ (p ++ y).size) : (p ++ y).extract 0 c = p ++ y.extract 0 (c - p.size) := by
  have hz : (p ++ y).size = p.size + y.size := ByteArray.size_append
  apply eq_of_byt
  · simp only [ByteArray.size_extract, ByteArray.size_append]; omega
  · intro i hi
    have hi' : i < c := by simp only [ByteArray.size_extract, ByteArray.size_append] at hi; omega
    rw [byt_extract _ _ _ _ (by omega) (by omega), Nat.zero_add]
    rcases Nat.lt_or_ge i p.size with hx | hx
    · rw [byt_left _ _ _ hx, byt_left _ _ _ hx]
    · obtain ⟨q, rfl⟩ : ∃ q, i = p.size + q := ⟨i - p.size, by omega⟩
      rw [byt_right _ _ _ (by omega), byt_right _ _ _ (by simp only [ByteArray.size_extract]; omega), byt_extract _ _ _ _ (by omega) (by omega), Nat.zero_add]
theorem cut_hd (B : ByteArray) (c At : Nat) (m : Int) (hA : At ≤ c) (hc : c ≤ B.size) (hE : hdE B At 0 m = 0) :
    (rawA B At 0 ≤ c ∧ rawA (B.extract 0 c) At 0 = rawA B At 0 ∧ hdE (B.extract 0 c) At 0 m = 0) ∨ hdE (B.extract 0 c) At 0 m = 2 := by
  have hs := cut_size B c hc
  obtain ⟨h1, h2⟩ := hdE_zero B At m (by omega) hE
  rcases cut_num B c At m hA hc h1 with ⟨b1, b2, b3, b4⟩ | b1
  · exact .inl ⟨b1, b3, hdE_of _ _ _ b4 (by rw [b2]; omega)⟩
  · exact .inr (by rw [hdE_err _ _ _ (by omega) (by rw [b1]; decide), b1])
theorem cut_find (H : ByteArray) (us : List Up) (c : Nat) (h1 : H.size ≤ c) : ∀ n, n ≤ us.length → c < (H ++ catU (us.take n)).size → ∃ j, j < n ∧ (H ++ catU (us.take j)).size ≤ c ∧ c < (H ++ catU (us.take (j + 1))).size
  | 0, _, h => by
    simp only [List.take_zero, catU, app_empty] at h
    omega
  | n + 1, hn, h => by
    rcases Nat.lt_or_ge c (H ++ catU (us.take n)).size with hx | hx
    · obtain ⟨j, h1, h2, h3⟩ := cut_find H us c h1 n (by omega) hx
      exact ⟨j, by omega, h2, h3⟩
    · exact ⟨n, by omega, hx, h⟩
theorem front_r (o n : Int) (us : List Up) (h : mayR o n us = 0) (c : Nat) (hc : c < (pxR o n us).size) : geE ((pxR o n us).extract 0 c) = 2 := by
  obtain ⟨h1, h2⟩ := mayR_zero h
  rcases Nat.lt_or_ge c (pxH o n us.length).size with hx | hx
  · obtain ⟨r1, r2, r3, r4, r5, r6, r7⟩ := rd_head o n us.length h1 (catU us)
    rw [show pxH o n us.length ++ catU us = pxR o n us from rfl] at r1 r2 r3 r4 r5 r6 r7
    have hc' : c ≤ (pxR o n us).size := by omega
    generalize pxR o n us = B at *
    have hs := cut_size B c hc'
    have two : (2 : Int) ≠ 0 := by decide
    rcases cut_hd B c 0 64 (Nat.zero_le _) hc' r2 with ⟨b1, b2, b3⟩ | b1
    · have w1 : a1 (B.extract 0 c) = a1 B := b2
      have w2 : e1 (B.extract 0 c) = 0 := b3
      have r4' : hdE B (a1 B) 0 1099511627776 = 0 := by have := r4; unfold e2 at this; rw [r2] at this; exact this
      rcases cut_hd B c (a1 B) 1099511627776 b1 hc' r4' with ⟨d1, d2, d3⟩ | d1
      · have w3 : a2 (B.extract 0 c) = a2 B := by unfold a2; rw [w1, w2, r2]; exact d2
        have w4 : e2 (B.extract 0 c) = 0 := by unfold e2; rw [w1, w2]; exact d3
        have v3 : a2 B = rawA B (a1 B) 0 := by unfold a2; rw [r2]
        have r7' : hdE B (a2 B) 0 8 = 0 := by have := r7; unfold e3 at this; rw [r4] at this; exact this
        rcases cut_hd B c (a2 B) 8 (by rw [v3]; exact d1) hc' r7' with ⟨f1, f2, f3⟩ | f1
        · have v4 : a3 B = rawA B (a2 B) 0 := by unfold a3; rw [r4]
          omega
        · have f : e3 (B.extract 0 c) = 2 := by unfold e3; rw [w3, w4]; exact f1
          rw [geE_3 _ (by rw [f]; exact two), f]
      · have d : e2 (B.extract 0 c) = 2 := by unfold e2; rw [w1, w2]; exact d1
        rw [geE_2 _ (by rw [d]; exact two), d]
    · have b : e1 (B.extract 0 c) = 2 := b1
      rw [geE_1 _ (by rw [b]; exact two), b]
  · obtain ⟨j, j1, j2, j3⟩ := cut_find (pxH o n us.length) us c hx us.length (Nat.le_refl _) (by rw [List.take_length]; exact hc)
    obtain ⟨post, hp⟩ := catU_split us us.length j j1 (Nat.le_refl _)
    rw [List.take_length] at hp
    have hB : pxR o n us = pxH o n us.length ++ catU (us.take j) ++ (pxU (us.getD j up0) ++ post) := by unfold pxR; rw [hp]; simp only [ByteArray.append_assoc]
    have hC : (pxR o n us).extract 0 c = pxH o n us.length ++ catU (us.take j) ++ (pxU (us.getD j up0) ++ post).extract 0 (c - (pxH o n us.length ++ catU (us.take j)).size) := by
      rw [hB]
      exact cut_left _ _ _ j2 (by rw [← hB]; omega)
    have hC2 : (pxR o n us).extract 0 c = pxH o n us.length ++ (catU (us.take j) ++ (pxU (us.getD j up0) ++ post).extract 0 (c - (pxH o n us.length ++ catU (us.take j)).size)) := by rw [hC, ByteArray.append_assoc]
    obtain ⟨_, _, _, _, r5, r6, r7⟩ := rd_head o n us.length h1 (catU (us.take j) ++ (pxU (us.getD j up0) ++ post).extract 0 (c - (pxH o n us.length ++ catU (us.take j)).size))
    rw [← hC2] at r5 r6 r7
    have hu := rd_ups (pxH o n us.length) us (mayL_zero us h2) j ((pxU (us.getD j up0) ++ post).extract 0 (c - (pxH o n us.length ++ catU (us.take j)).size)) (by omega)
    rw [← hC] at hu
    have hup := rd_u (pxH o n us.length ++ catU (us.take j)) post (us.getD j up0) (mayL_zero us h2 j j1)
    rw [ByteArray.append_assoc, ← hB] at hup
    have hz : (pxH o n us.length ++ catU (us.take (j + 1))).size = (pxH o n us.length ++ catU (us.take j)).size + (pxU (us.getD j up0)).size := by rw [catU_step us j j1]; simp only [ByteArray.size_append, Nat.add_assoc]
    have hcut := cut_upd (pxR o n us) c _ j2 (by omega) _ _ hup (by omega)
    have hfin : (updsR ((pxR o n us).extract 0 c) (j + 1) (a3 ((pxR o n us).extract 0 c)) (e3 ((pxR o n us).extract 0 c))).2.2 = 2 := by
      rw [r6, r7]
      show (updR _ (updsR _ j _ 0).2.1 (updsR _ j _ 0).2.2).2.2 = 2
      rw [hu]
      exact hcut
    rw [geE_4 _ (j + 1) (by rw [r5]; omega) (by rw [hfin]; decide), hfin]
/-- No origin and no number has more bytes than the greatest. -/
theorem fits_r (o n : Int) (us : List Up) (h : headOk o n us.length) : (pxR o n us).size ≤ (pxR 64 1099511627776 us).size := by
  unfold headOk at h
  unfold pxR pxH
  simp only [ByteArray.size_append]
  have h1 : (pxN 64).size = 2 := by rfl
  have h2 : (pxN 1099511627776).size = 8 := by rfl
  have h3 := pxN_size n
  have h4 : (pxN o).size ≤ 2 := by
    rw [pxN_put o (by unfold okN; omega), strOfNums_size]
    unfold putS
    split
    · show 1 ≤ 2; omega
    · rw [if_pos (by omega)]; exact Nat.le_refl _
  omega
end Go.Proofs.YtcknklodnfabpaaDoor
