/- Plain mathematics: what is read of fields that were put. -/
import Derived.Test.YtcknklodnfabpaaDoorB2
namespace Go.Proofs.YtcknklodnfabpaaDoor
open Go
theorem zag_zig (n : Int) : zagS (zigS n) = n := by
  unfold zagS zigS
  split <;> split <;> omega
theorem emp_app (s : ByteArray) : (⟨#[]⟩ : ByteArray) ++ s = s := by
  apply ByteArray.ext
  simp
theorem app_empty (s : ByteArray) : s ++ (⟨#[]⟩ : ByteArray) = s := by
  apply ByteArray.ext
  simp
theorem rd_raw (x y : ByteArray) (n : Int) (h : okN n) : rawV (x ++ strOfNums (putS n) ++ y) x.size 0 = n ∧ rawA (x ++ strOfNums (putS n) ++ y) x.size 0 = x.size + (strOfNums (putS n)).size ∧ rawE (x ++ strOfNums (putS n) ++ y) x.size 0 = 0 := by
  refine raw_ok _ _ n _ ?_
  rw [getS_mid n h.1 h.2 x y, strOfNums_size, Int.natCast_add]
theorem num_of (B : ByteArray) (At : Nat) (most n : Int) (hA : At ≤ B.size) (hV : rawV B At 0 = n) (hE : rawE B At 0 = 0) :
    (n ≤ bd most → numV B At 0 most = n ∧ numE B At 0 most = 0) ∧ (bd most < n → numV B At 0 most = 0 ∧ numE B At 0 most = 1) := by
  rcases num3 B At 0 most hA with ⟨h1, _, _, _⟩ | ⟨h1, h2, h3, h4⟩ | ⟨h1, h2, h3, h4⟩
  · exact absurd hE h1
  · rw [hV] at h2
    exact ⟨fun hx => absurd hx (by omega), fun _ => ⟨h3, h4⟩⟩
  · rw [hV] at h2 h3
    exact ⟨fun _ => ⟨h3, h4⟩, fun hx => absurd hx (by omega)⟩
theorem extract_mid (x t y : ByteArray) : (x ++ t ++ y).extract x.size (x.size + t.size) = t := by
  apply eq_of_byt
  · simp only [ByteArray.size_extract, ByteArray.size_append]; omega
  · intro i hi
    have hi' : i < t.size := by simp only [ByteArray.size_extract, ByteArray.size_append] at hi; omega
    rw [byt_extract _ _ _ _ (by simp only [ByteArray.size_append]; omega) (by omega), byt_left _ _ _ (by simp only [ByteArray.size_append]; omega), byt_right _ _ _ hi']
theorem rd_txt (x y t : ByteArray) (most : Int) (ht : t.size ≤ 1000000) (hb : (t.size : Int) ≤ bd most) :
    txtV (x ++ pxT t ++ y) x.size 0 most = t ∧ txtA (x ++ pxT t ++ y) x.size 0 most = x.size + (pxT t).size ∧ txtE (x ++ pxT t ++ y) x.size 0 most = 0 := by
  have hok : okN (t.size : Int) := by unfold okN; omega
  have e : x ++ pxT t ++ y = x ++ strOfNums (putS t.size) ++ (t ++ y) := by unfold pxT; simp only [ByteArray.append_assoc]
  have e2 : x ++ pxT t ++ y = (x ++ strOfNums (putS t.size)) ++ t ++ y := by unfold pxT; simp only [ByteArray.append_assoc]
  have hA : x.size ≤ (x ++ pxT t ++ y).size := by simp only [ByteArray.size_append]; omega
  have hs : (x ++ pxT t ++ y).size = x.size + (strOfNums (putS t.size)).size + t.size + y.size := by rw [e2]; simp only [ByteArray.size_append]
  have hp : (pxT t).size = (strOfNums (putS t.size)).size + t.size := by unfold pxT; rw [ByteArray.size_append]
  obtain ⟨r1, r2, r3⟩ := rd_raw x (t ++ y) (t.size : Int) hok
  rw [← e] at r1 r2 r3
  obtain ⟨n1, n2⟩ := (num_of _ x.size most _ hA r1 r3).1 hb
  rcases txt3 (x ++ pxT t ++ y) x.size 0 most hA with ⟨h1, _⟩ | ⟨_, h2, _⟩ | ⟨_, k, h2, h3, h4, h5, h6⟩
  · exact absurd n2 h1
  · rw [n1, r2, hs] at h2
    omega
  · have hk : k = t.size := by rw [n1] at h2; omega
    subst hk
    refine ⟨?_, ?_, h4⟩
    · rw [h6, r2, e2]
      have := extract_mid (x ++ strOfNums (putS t.size)) t y
      rw [ByteArray.size_append] at this
      exact this
    · rw [h5, r2, hp]; omega
theorem end_all (B : ByteArray) : endE B B.size 0 = 0 := by
  unfold endE
  rw [if_neg (by simp), if_neg (by omega)]
end Go.Proofs.YtcknklodnfabpaaDoor
