/- Plain mathematics: fields one behind the other, and what is read of them. -/
import Derived.Test.YtgeafheoaffooaaDoorM3
import Derived.Test.YtgeafheoaffooaaDoorG1
namespace Go.Proofs.YtgeafheoaffooaaDoor
open Go
theorem zag_zig (n : Int) : zagS (zigS n) = n := by
  unfold zagS zigS
  split <;> split <;> omega
/-- A field's bytes, and whether it has any. -/
def pxF (f : Fd) : ByteArray := if f.1 = 1 then pxN f.2.1 else if f.1 = 2 then pxS f.2.1 else pxT f.2.2
def okF (f : Fd) : Prop := (f.1 = 1 → okN f.2.1) ∧ (f.1 = 2 → okS f.2.1)
def catF : List Fd → ByteArray
  | [] => ⟨#[]⟩
  | f :: l => pxF f ++ catF l
theorem emp_app (s : ByteArray) : (⟨#[]⟩ : ByteArray) ++ s = s := by
  apply ByteArray.ext
  simp
theorem app_empty (s : ByteArray) : s ++ (⟨#[]⟩ : ByteArray) = s := by
  apply ByteArray.ext
  simp
theorem catF_append (a b : List Fd) : catF (a ++ b) = catF a ++ catF b := by
  induction a with
  | nil => simp only [List.nil_append, catF, emp_app]
  | cons x l ih => simp only [List.cons_append, catF, ih, ByteArray.append_assoc]
theorem take_step (fs : List Fd) (k : Nat) (h : k < fs.length) : fs.take (k + 1) = fs.take k ++ [fs.getD k fd0] := by
  rw [List.take_add_one, List.getElem?_eq_getElem h, List.getD_eq_getElem?_getD, List.getElem?_eq_getElem h]
  rfl
theorem catF_step (fs : List Fd) (k : Nat) (h : k < fs.length) : catF (fs.take (k + 1)) = catF (fs.take k) ++ pxF (fs.getD k fd0) := by
  rw [take_step fs k h, catF_append]
  simp only [catF, app_empty]
theorem catF_split (fs : List Fd) (k : Nat) (h : k < fs.length) : ∃ post, catF fs = catF (fs.take k) ++ pxF (fs.getD k fd0) ++ post := by
  refine ⟨catF (fs.drop (k + 1)), ?_⟩
  rw [← catF_step fs k h, ← catF_append, List.take_append_drop]
theorem wS_step (fs : List Fd) (k : Nat) (hk : k < fs.length) (s : ByteArray) (failed ok : Bool) (px : ByteArray) (hok : ok = true → px = pxF (fs.getD k fd0) ∧ okF (fs.getD k fd0)) (hs1 : failed = true → s = ⟨#[]⟩) (hs2 : failed = false → s = catF (fs.take k) ∧ ∀ i, i < k → okF (fs.getD i fd0)) (hsz : s.size ≤ 300 * k) (hpx : px.size ≤ 300) :
    ((failed || !ok) = true → wS s failed ok px = ⟨#[]⟩) ∧ ((failed || !ok) = false → wS s failed ok px = catF (fs.take (k + 1)) ∧ ∀ i, i < k + 1 → okF (fs.getD i fd0)) ∧ (wS s failed ok px).size ≤ 300 * (k + 1) := by
  have e0 : (⟨#[]⟩ : ByteArray).size = 0 := rfl
  cases failed with
  | true =>
    have e : wS s true ok px = s := rfl
    rw [e, hs1 rfl]
    exact ⟨fun _ => rfl, fun h => by simp at h, by omega⟩
  | false =>
    cases ok with
    | false =>
      have e : wS s false false px = ⟨#[]⟩ := rfl
      rw [e]
      exact ⟨fun _ => rfl, fun h => by simp at h, by omega⟩
    | true =>
      have e : wS s false true px = s ++ px := rfl
      rw [e]
      obtain ⟨h1, h2⟩ := hs2 rfl
      obtain ⟨h3, h4⟩ := hok rfl
      refine ⟨fun h => by simp at h, fun _ => ⟨by rw [catF_step fs k hk, h1, h3], fun i hi => ?_⟩, by rw [ByteArray.size_append]; omega⟩
      rcases Nat.lt_or_ge i k with h5 | h5
      · exact h2 i h5
      · obtain rfl : i = k := by omega
        exact h4
theorem rd_raw (x y : ByteArray) (n : Int) (h : okN n) : rawV (x ++ strOfNums (putS n) ++ y) x.size 0 = n ∧ rawA (x ++ strOfNums (putS n) ++ y) x.size 0 = x.size + (strOfNums (putS n)).size ∧ rawE (x ++ strOfNums (putS n) ++ y) x.size 0 = 0 := by
  refine raw_ok _ _ n _ ?_
  rw [getS_mid n h.1 h.2 x y, strOfNums_size, Int.natCast_add]
theorem num_of (B : ByteArray) (At : Nat) (most n : Int) (hA : At ≤ B.size) (hV : rawV B At 0 = n) (hE : rawE B At 0 = 0) :
    (n ≤ bd most → numV B At 0 most = n ∧ numE B At 0 most = 0) ∧ (bd most < n → numV B At 0 most = 0 ∧ numE B At 0 most = 1) := by
  rcases num3 B At 0 most hA with ⟨h1, _, _, _⟩ | ⟨h1, h2, h3, h4⟩ | ⟨h1, h2, h3, h4⟩
  · exact absurd hE h1
  · rw [hV] at h2
    exact ⟨fun hx => absurd hx (by omega), fun _ => ⟨h3, h4⟩⟩
  · rw [hV] at h2 h3
    exact ⟨fun _ => ⟨h3, h4⟩, fun hx => absurd hx (by omega)⟩
theorem extract_mid (x t y : ByteArray) : (x ++ t ++ y).extract x.size (x.size + t.size) = t := by
  apply eq_of_byt
  · simp only [ByteArray.size_extract, ByteArray.size_append]; omega
  · intro i hi
    have hi' : i < t.size := by simp only [ByteArray.size_extract, ByteArray.size_append] at hi; omega
    rw [byt_extract _ _ _ _ (by simp only [ByteArray.size_append]; omega) (by omega), byt_left _ _ _ (by simp only [ByteArray.size_append]; omega), byt_right _ _ _ hi']
theorem rd_txt (x y t : ByteArray) (most : Int) (ht : t.size ≤ 1000000) (hb : (t.size : Int) ≤ bd most) :
    txtV (x ++ pxT t ++ y) x.size 0 most = t ∧ txtA (x ++ pxT t ++ y) x.size 0 most = x.size + (pxT t).size ∧ txtE (x ++ pxT t ++ y) x.size 0 most = 0 := by
  have hok : okN (t.size : Int) := by unfold okN; omega
  have e : x ++ pxT t ++ y = x ++ strOfNums (putS t.size) ++ (t ++ y) := by unfold pxT; simp only [ByteArray.append_assoc]
  have e2 : x ++ pxT t ++ y = (x ++ strOfNums (putS t.size)) ++ t ++ y := by unfold pxT; simp only [ByteArray.append_assoc]
  have hA : x.size ≤ (x ++ pxT t ++ y).size := by simp only [ByteArray.size_append]; omega
  have hs : (x ++ pxT t ++ y).size = x.size + (strOfNums (putS t.size)).size + t.size + y.size := by rw [e2]; simp only [ByteArray.size_append]
  have hp : (pxT t).size = (strOfNums (putS t.size)).size + t.size := by unfold pxT; rw [ByteArray.size_append]
  obtain ⟨r1, r2, r3⟩ := rd_raw x (t ++ y) (t.size : Int) hok
  rw [← e] at r1 r2 r3
  obtain ⟨n1, n2⟩ := (num_of _ x.size most _ hA r1 r3).1 hb
  rcases txt3 (x ++ pxT t ++ y) x.size 0 most hA with ⟨h1, _⟩ | ⟨_, h2, _⟩ | ⟨_, k, h2, h3, h4, h5, h6⟩
  · exact absurd n2 h1
  · rw [n1, r2, hs] at h2
    omega
  · have hk : k = t.size := by rw [n1] at h2; omega
    subst hk
    refine ⟨?_, ?_, h4⟩
    · rw [h6, r2, e2]
      have := extract_mid (x ++ strOfNums (putS t.size)) t y
      rw [ByteArray.size_append] at this
      exact this
    · rw [h5, r2, hp]; omega
theorem rd_txt_no (x y t : ByteArray) (most : Int) (ht : t.size ≤ 1000000) (hb : bd most < (t.size : Int)) :
    txtV (x ++ pxT t ++ y) x.size 0 most = ⟨#[]⟩ ∧ txtE (x ++ pxT t ++ y) x.size 0 most = 1 := by
  have hok : okN (t.size : Int) := by unfold okN; omega
  have e : x ++ pxT t ++ y = x ++ strOfNums (putS t.size) ++ (t ++ y) := by unfold pxT; simp only [ByteArray.append_assoc]
  have hA : x.size ≤ (x ++ pxT t ++ y).size := by simp only [ByteArray.size_append]; omega
  obtain ⟨r1, r2, r3⟩ := rd_raw x (t ++ y) (t.size : Int) hok
  rw [← e] at r1 r2 r3
  obtain ⟨n1, n2⟩ := (num_of _ x.size most _ hA r1 r3).2 hb
  rcases txt3 (x ++ pxT t ++ y) x.size 0 most hA with ⟨h1, _, h3, _, h5⟩ | ⟨h0, _⟩ | ⟨h0, _⟩
  · exact ⟨h5, h3.trans n2⟩
  · rw [n2] at h0; exact absurd h0 (by decide)
  · rw [n2] at h0; exact absurd h0 (by decide)
theorem end_all (B : ByteArray) : endE B B.size 0 = 0 := by
  unfold endE
  rw [if_neg (by simp), if_neg (by omega)]
end Go.Proofs.YtgeafheoaffooaaDoor
