/- Plain mathematics: what is put is got, what is got is put: the whole. -/
import Derived.Test.YtpdpmdbdnpemnaaDoorA5
namespace Go.Proofs.YtpdpmdbdnpemnaaDoor
open Go
theorem putS_length (n : Int) (h0 : 0 ≤ n) (h4 : n < 4611686018427387904) : 1 ≤ (putS n).length ∧ (putS n).length ≤ 8 := by
  rcases putS_cases n h0 h4 with ⟨_, e⟩ | ⟨_, _, e⟩ | ⟨_, _, e⟩ | ⟨_, e⟩ <;> rw [e, be_length] <;> omega
theorem getS_put (n : Int) (h0 : 0 ≤ n) (h4 : n < 4611686018427387904) (s : ByteArray) (a : Nat) (hs : a + (putS n).length ≤ s.size) (hb : ∀ i, i < (putS n).length → byt s (a + i) = (putS n).getD i 0) : getS s (a : Int) = (n, (a : Int) + (putS n).length, 0) := by
  rcases putS_cases n h0 h4 with ⟨h1, e⟩ | ⟨h1, h2, e⟩ | ⟨h1, h2, e⟩ | ⟨h1, e⟩
  · rw [e, be_length] at hs hb ⊢; exact getS_be1 n h0 h1 s a hs hb
  · rw [e, be_length] at hs hb ⊢; exact getS_be2 n h1 h2 s a hs hb
  · rw [e, be_length] at hs hb ⊢; exact getS_be4 n h1 h2 s a hs hb
  · rw [e, be_length] at hs hb ⊢; exact getS_be8 n h1 h4 s a hs hb
/-- Behind whatever, and ahead of whatever. -/
theorem getS_mid (n : Int) (h0 : 0 ≤ n) (h4 : n < 4611686018427387904) (x y : ByteArray) : getS (x ++ strOfNums (putS n) ++ y) (x.size : Int) = (n, (x.size : Int) + (putS n).length, 0) := by
  refine getS_put n h0 h4 _ _ (by simp only [ByteArray.size_append, strOfNums_size]; omega) fun i hi => ?_
  rw [byt_left _ _ _ (by simp only [ByteArray.size_append, strOfNums_size]; omega), byt_right _ _ _ (by rw [strOfNums_size]; exact hi), byt_nums _ i hi (putS_mem n)]
theorem getS_front (n : Int) (h0 : 0 ≤ n) (h4 : n < 4611686018427387904) (y : ByteArray) : getS (strOfNums (putS n) ++ y) 0 = (n, ((putS n).length : Int), 0) := by
  have h := getS_put n h0 h4 (strOfNums (putS n) ++ y) 0 (by simp only [ByteArray.size_append, strOfNums_size]; omega) (fun i hi => by
    rw [Nat.zero_add, byt_left _ _ _ (by rw [strOfNums_size]; exact hi), byt_nums _ i hi (putS_mem n)])
  simpa using h
theorem wid_put (n : Int) (h0 : 0 ≤ n) (h4 : n < 4611686018427387904) : wid (byt (strOfNums (putS n)) 0) = (putS n).length := by
  have hl := putS_length n h0 h4
  have h := getS_put n h0 h4 (strOfNums (putS n)) 0 (by rw [strOfNums_size]; omega) (fun i hi => by rw [Nat.zero_add, byt_nums _ i hi (putS_mem n)])
  unfold getS at h
  rw [if_neg (by simp)] at h
  split at h
  · simp at h
  · split at h
    · simp at h
    · have h1 := congrArg (fun p => p.2.1) h
      simp at h1
      omega
theorem getS_cut (n : Int) (h0 : 0 ≤ n) (h4 : n < 4611686018427387904) (c : Nat) (hc : c < (putS n).length) : getS ((strOfNums (putS n)).extract 0 c) 0 = (0, 0, 2) := by
  have hl := putS_length n h0 h4
  have hsz : ((strOfNums (putS n)).extract 0 c).size = c := by simp [strOfNums_size]; omega
  unfold getS
  rw [if_neg (by simp)]
  rcases Nat.eq_zero_or_pos c with h | h
  · subst h
    rw [if_pos]
    rw [hsz, byt_end _ _ (by rw [hsz]; exact Nat.zero_le _)]
    simp [wid]
  · rw [if_pos]
    rw [hsz, show (0 : Int).toNat = 0 from rfl, byt_extract _ 0 c 0 (by rw [strOfNums_size]; omega) (by omega), wid_put n h0 h4]
    omega
theorem getS_err (s : ByteArray) (a : Int) : (getS s a).2.2 = 0 ∨ ∃ e, 1 ≤ e ∧ getS s a = (0, 0, e) := by
  unfold getS
  split
  · exact .inr ⟨1, by decide, rfl⟩
  split
  · exact .inr ⟨2, by decide, rfl⟩
  split
  · exact .inr ⟨3, by decide, rfl⟩
  · exact .inl rfl
theorem wid_cases (c : Int) : wid c = 1 ∨ wid c = 2 ∨ wid c = 4 ∨ wid c = 8 := by
  unfold wid
  (repeat' split) <;> simp
theorem putS_got (s : ByteArray) (h : (getS s 0).2.2 = 0) : ∃ W : Nat, 1 ≤ W ∧ W ≤ s.size ∧ 0 ≤ (getS s 0).1 ∧ (getS s 0).1 < 4611686018427387904 ∧ (getS s 0).2.1 = (W : Int) ∧ strOfNums (putS (getS s 0).1) = s.extract 0 W := by
  unfold getS at h ⊢
  rw [if_neg (by simp)] at h ⊢
  rw [show (0 : Int).toNat = 0 from rfl] at h ⊢
  split at h
  · simp at h
  rename_i hs
  split at h
  · simp at h
  rename_i hu
  rw [if_neg hs, if_neg hu]
  have hub := un_bd s 0 (wid (byt s 0)) (by rcases wid_cases (byt s 0) with e | e | e | e <;> omega)
  refine ⟨wid (byt s 0), by rcases wid_cases (byt s 0) with e | e | e | e <;> omega, by omega, hub.1, hub.2, by simp, ?_⟩
  rcases wid_cases (byt s 0) with e | e | e | e
  · rw [e] at hs hu hub ⊢
    have := un1 s 0
    unfold putS
    rw [if_pos (by omega)]
    exact be_un1 s (by omega) e
  · rw [e] at hs hu hub ⊢
    have := un2 s 0
    simp [lo] at hu
    unfold putS
    rw [if_neg (by omega), if_pos (by omega)]
    exact be_un2 s (by omega) e
  · rw [e] at hs hu hub ⊢
    have := un4 s 0
    simp [lo] at hu
    unfold putS
    rw [if_neg (by omega), if_neg (by omega), if_pos (by omega)]
    exact be_un4 s (by omega) e
  · rw [e] at hs hu hub ⊢
    simp [lo] at hu
    unfold putS
    rw [if_neg (by omega), if_neg (by omega), if_neg (by omega)]
    exact be_un8 s (by omega) e
end Go.Proofs.YtpdpmdbdnpemnaaDoor
