import Derived.Test.YtjmkdgjdemndaaaDoorB2
import Derived.Test.YtjmkdgjdemndaaaDoorB0
import Derived.Test.YtjmkdgjdemndaaaDoorB4
/- Plain mathematics: an update's bytes; what is read, where, and with which error. -/
namespace Go.Proofs.YtjmkdgjdemndaaaDoor.X
open Go
/-- What Read makes: the update, the place behind it, the error. -/
def updR (B : ByteArray) (At : Nat) (E : Int) : Up × Nat × Int :=
  if numE B At E 5 ≠ 0 then (up0, rawA B At E, numE B At E 5)
  else if numV B At E 5 = 0 then (up0, rawA B At E, 5)
  else if txtE B (rawA B At E) 0 16 ≠ 0 then (up0, txtA B (rawA B At E) 0 16, txtE B (rawA B At E) 0 16)
  else if (txtV B (rawA B At E) 0 16).size = 0 then (up0, txtA B (rawA B At E) 0 16, 1)
  else if numV B At E 5 = 1 ∨ numV B At E 5 = 3 then
    (if rawE B (txtA B (rawA B At E) 0 16) 0 ≠ 0 then (up0, rawA B (txtA B (rawA B At E) 0 16) 0, rawE B (txtA B (rawA B At E) 0 16) 0)
     else ((txtV B (rawA B At E) 0 16, numV B At E 5, sgnV B (txtA B (rawA B At E) 0 16) 0, ⟨#[]⟩), rawA B (txtA B (rawA B At E) 0 16) 0, 0))
  else if numV B At E 5 = 2 ∨ numV B At E 5 = 4 then
    (if txtE B (txtA B (rawA B At E) 0 16) 0 32 ≠ 0 then (up0, txtA B (txtA B (rawA B At E) 0 16) 0 32, txtE B (txtA B (rawA B At E) 0 16) 0 32)
     else ((txtV B (rawA B At E) 0 16, numV B At E 5, 0, txtV B (txtA B (rawA B At E) 0 16) 0 32), txtA B (txtA B (rawA B At E) 0 16) 0 32, 0))
  else ((txtV B (rawA B At E) 0 16, numV B At E 5, 0, ⟨#[]⟩), txtA B (rawA B At E) 0 16, 0)
/-- The ways of Read. -/
inductive UpdC (B : ByteArray) (At : Nat) (E : Int) : Up × Nat × Int → Prop
  | a (h1 : numE B At E 5 ≠ 0) : UpdC B At E (up0, rawA B At E, numE B At E 5)
  | b (h1 : numE B At E 5 = 0) (h2 : numV B At E 5 = 0) : UpdC B At E (up0, rawA B At E, 5)
  | c (A1 : Nat) (e1 : rawA B At E = A1) (k : Int) (hk : 1 ≤ k ∧ k ≤ 5) (h1 : numE B At E 5 = 0) (h2 : numV B At E 5 = k) (h3 : txtE B A1 0 16 ≠ 0) : UpdC B At E (up0, txtA B A1 0 16, txtE B A1 0 16)
  | d (A1 : Nat) (e1 : rawA B At E = A1) (k : Int) (hk : 1 ≤ k ∧ k ≤ 5) (h1 : numE B At E 5 = 0) (h2 : numV B At E 5 = k) (h3 : txtE B A1 0 16 = 0) (h4 : txtV B A1 0 16 = ⟨#[]⟩) : UpdC B At E (up0, txtA B A1 0 16, 1)
  | e (A1 A2 : Nat) (e1 : rawA B At E = A1) (e2 : txtA B A1 0 16 = A2) (k : Int) (hk : k = 1 ∨ k = 3) (h1 : numE B At E 5 = 0) (h2 : numV B At E 5 = k) (h3 : txtE B A1 0 16 = 0) (y : ByteArray) (h4 : txtV B A1 0 16 = y) (hy : 0 < y.size) (h5 : rawE B A2 0 ≠ 0) : UpdC B At E (up0, rawA B A2 0, rawE B A2 0)
  | f (A1 A2 : Nat) (e1 : rawA B At E = A1) (e2 : txtA B A1 0 16 = A2) (k : Int) (hk : k = 1 ∨ k = 3) (h1 : numE B At E 5 = 0) (h2 : numV B At E 5 = k) (h3 : txtE B A1 0 16 = 0) (y : ByteArray) (h4 : txtV B A1 0 16 = y) (hy : 0 < y.size) (h5 : rawE B A2 0 = 0) : UpdC B At E ((y, k, sgnV B A2 0, ⟨#[]⟩), rawA B A2 0, 0)
  | g (A1 A2 : Nat) (e1 : rawA B At E = A1) (e2 : txtA B A1 0 16 = A2) (k : Int) (hk : k = 2 ∨ k = 4) (h1 : numE B At E 5 = 0) (h2 : numV B At E 5 = k) (h3 : txtE B A1 0 16 = 0) (y : ByteArray) (h4 : txtV B A1 0 16 = y) (hy : 0 < y.size) (h5 : txtE B A2 0 32 ≠ 0) : UpdC B At E (up0, txtA B A2 0 32, txtE B A2 0 32)
  | h (A1 A2 : Nat) (e1 : rawA B At E = A1) (e2 : txtA B A1 0 16 = A2) (k : Int) (hk : k = 2 ∨ k = 4) (h1 : numE B At E 5 = 0) (h2 : numV B At E 5 = k) (h3 : txtE B A1 0 16 = 0) (y : ByteArray) (h4 : txtV B A1 0 16 = y) (hy : 0 < y.size) (h5 : txtE B A2 0 32 = 0) : UpdC B At E ((y, k, 0, txtV B A2 0 32), txtA B A2 0 32, 0)
  | i (A1 A2 : Nat) (e1 : rawA B At E = A1) (e2 : txtA B A1 0 16 = A2) (h1 : numE B At E 5 = 0) (h2 : numV B At E 5 = 5) (h3 : txtE B A1 0 16 = 0) (y : ByteArray) (h4 : txtV B A1 0 16 = y) (hy : 0 < y.size) : UpdC B At E ((y, 5, 0, ⟨#[]⟩), A2, 0)
theorem bytes0 (s : ByteArray) (h : s.size = 0) : s = ⟨#[]⟩ := by
  apply eq_of_byt
  · rw [h]; rfl
  · intro i hi; omega
theorem bd5 : bd 5 = 5 := by decide
theorem updC (B : ByteArray) (At : Nat) (E : Int) (hA : At ≤ B.size) : UpdC B At E (updR B At E) := by
  have hv := numV_bd B At E 5 hA
  have hle : numE B At E 5 = 0 → numV B At E 5 ≤ 5 := by
    intro h0
    have := bd5
    rcases num3 B At E 5 hA with ⟨_, _, e, _⟩ | ⟨_, _, e, _⟩ | ⟨_, h2, e, _⟩ <;> omega
  unfold updR
  split
  · rename_i h1; exact .a h1
  rename_i h1
  have h1 : numE B At E 5 = 0 := by omega
  have hle := hle h1
  split
  · rename_i h2; exact .b h1 h2
  rename_i h2
  split
  · rename_i h3; exact .c _ rfl _ ⟨by omega, hle⟩ h1 rfl h3
  rename_i h3
  have h3 : txtE B (rawA B At E) 0 16 = 0 := by omega
  split
  · rename_i h4; exact .d _ rfl _ ⟨by omega, hle⟩ h1 rfl h3 (bytes0 _ h4)
  rename_i h4
  split
  · rename_i hk
    split
    · rename_i h5; exact .e _ _ rfl rfl _ hk h1 rfl h3 _ rfl (by omega) h5
    · rename_i h5; exact .f _ _ rfl rfl _ hk h1 rfl h3 _ rfl (by omega) (by omega)
  rename_i hk
  split
  · rename_i hk
    split
    · rename_i h5; exact .g _ _ rfl rfl _ hk h1 rfl h3 _ rfl (by omega) h5
    · rename_i h5; exact .h _ _ rfl rfl _ hk h1 rfl h3 _ rfl (by omega) (by omega)
  rename_i hk2
  have h5 : numV B At E 5 = 5 := by omega
  rw [h5]
  exact .i _ _ rfl rfl h1 h5 h3 _ rfl (by omega)
theorem updR_of {B : ByteArray} {At : Nat} {E : Int} {r : Up × Nat × Int} (h : UpdC B At E r) : updR B At E = r := by
  cases h with
  | a h1 => simp [updR, h1]
  | b h1 h2 => simp [updR, h1, h2]
  | c A1 e1 k hk h1 h2 h3 => subst e1 h2; have e : ¬ numV B At E 5 = 0 := by omega
                             simp [updR, h1, h3, e]
  | d A1 e1 k hk h1 h2 h3 h4 => subst e1 h2; have e : ¬ numV B At E 5 = 0 := by omega
                                have z : (⟨#[]⟩ : ByteArray).size = 0 := rfl
                                simp [updR, h1, h3, h4, e, z]
  | e A1 A2 e1 e2 k hk h1 h2 h3 y h4 hy h5 => subst e1 e2 h2 h4; have e : ¬ numV B At E 5 = 0 := by omega
                                              have z : ¬ (txtV B (rawA B At E) 0 16).size = 0 := by omega
                                              simp [updR, h1, h3, h5, e, z, hk]
  | f A1 A2 e1 e2 k hk h1 h2 h3 y h4 hy h5 => subst e1 e2 h2 h4; have e : ¬ numV B At E 5 = 0 := by omega
                                              have z : ¬ (txtV B (rawA B At E) 0 16).size = 0 := by omega
                                              simp [updR, h1, h3, h5, e, z, hk]
  | g A1 A2 e1 e2 k hk h1 h2 h3 y h4 hy h5 => subst e1 e2 h2 h4; have e : ¬ numV B At E 5 = 0 := by omega
                                              have z : ¬ (txtV B (rawA B At E) 0 16).size = 0 := by omega
                                              have hn : ¬ (numV B At E 5 = 1 ∨ numV B At E 5 = 3) := by omega
                                              simp [updR, h1, h3, h5, e, z, hk, hn]
  | h A1 A2 e1 e2 k hk h1 h2 h3 y h4 hy h5 => subst e1 e2 h2 h4; have e : ¬ numV B At E 5 = 0 := by omega
                                              have z : ¬ (txtV B (rawA B At E) 0 16).size = 0 := by omega
                                              have hn : ¬ (numV B At E 5 = 1 ∨ numV B At E 5 = 3) := by omega
                                              simp [updR, h1, h3, h5, e, z, hk, hn]
  | i A1 A2 e1 e2 h1 h2 h3 y h4 hy => subst e1 e2 h4; have z : ¬ (txtV B (rawA B At E) 0 16).size = 0 := by omega
                                      simp [updR, h1, h2, h3, z]
theorem dead_num (B : ByteArray) (At : Nat) (E m : Int) (h : E ≠ 0) : numV B At E m = 0 ∧ numE B At E m = E ∧ rawA B At E = At := by
  obtain ⟨a, b, c⟩ := raw_dead B At E h
  refine ⟨?_, ?_, b⟩
  · unfold numV; rw [if_pos (by rw [c]; exact h)]
  · unfold numE; rw [if_pos (by rw [c]; exact h), c]
theorem dead_txt (B : ByteArray) (At : Nat) (E m : Int) (h : E ≠ 0) : txtV B At E m = ⟨#[]⟩ ∧ txtE B At E m = E := by
  obtain ⟨a, b, c⟩ := dead_num B At E m h
  have e : txtE B At E m = E := by unfold txtE; rw [if_pos (by rw [b]; exact h), b]
  exact ⟨by unfold txtV; rw [if_pos (by rw [e]; exact h)], e⟩
theorem dead_sgn (B : ByteArray) (At : Nat) (E : Int) (h : E ≠ 0) : sgnV B At E = 0 ∧ rawE B At E = E := by
  obtain ⟨a, b, c⟩ := raw_dead B At E h
  exact ⟨by unfold sgnV; rw [if_pos (by rw [c]; exact h)], c⟩
theorem numE_zero (B : ByteArray) (At : Nat) (E m : Int) (hA : At ≤ B.size) (h : numE B At E m ≠ 0) : numV B At E m = 0 := by
  rcases num3 B At E m hA with ⟨_, _, e, _⟩ | ⟨_, _, e, _⟩ | ⟨_, _, _, e⟩
  · exact e
  · exact e
  · exact absurd e h
theorem txtE_zero (B : ByteArray) (At : Nat) (E m : Int) (hA : At ≤ B.size) (h : txtE B At E m ≠ 0) : txtV B At E m = ⟨#[]⟩ := by
  rcases txt3 B At E m hA with ⟨_, _, _, _, e⟩ | ⟨_, _, _, _, e⟩ | ⟨_, _, _, _, e, _⟩
  · exact e
  · exact e
  · exact absurd e h
theorem failE_dead (E e : Int) (h : E ≠ 0) : failE E e = E := if_pos h
theorem failE_live (e : Int) : failE 0 e = e := if_neg (by simp)
theorem updA_le (B : ByteArray) (At : Nat) (E : Int) (hA : At ≤ B.size) : (updR B At E).2.1 ≤ B.size := by
  have h1 := rawA_le B At E hA
  have hc := updC B At E hA
  generalize updR B At E = r at *
  cases hc with
  | a => exact h1
  | b => exact h1
  | c A1 e1 => subst e1; exact txtA_le _ _ _ _ h1
  | d A1 e1 => subst e1; exact txtA_le _ _ _ _ h1
  | e A1 A2 e1 e2 => subst e1 e2; exact rawA_le B (txtA B (rawA B At E) 0 16) 0 (txtA_le B _ 0 16 h1)
  | f A1 A2 e1 e2 => subst e1 e2; exact rawA_le B (txtA B (rawA B At E) 0 16) 0 (txtA_le B _ 0 16 h1)
  | g A1 A2 e1 e2 => subst e1 e2; exact txtA_le B (txtA B (rawA B At E) 0 16) 0 32 (txtA_le B _ 0 16 h1)
  | h A1 A2 e1 e2 => subst e1 e2; exact txtA_le B (txtA B (rawA B At E) 0 16) 0 32 (txtA_le B _ 0 16 h1)
  | i A1 A2 e1 e2 => subst e1 e2; exact txtA_le _ _ _ _ h1
end Go.Proofs.YtjmkdgjdemndaaaDoor.X
/- Read, by one contract. -/
namespace Go.Proofs.YtjmkdgjdemndaaaDoor.X
open Go Go.RowKit
theorem emp0 : (⟨#[]⟩ : ByteArray).size = 0 := rfl
theorem uread_any (B : ByteArray) (At : Nat) (E : Int) (b : Nat) (hb : 0 < b) (hA : At ≤ B.size) (hm : B.size ≤ 140737488355328) (w : World) (hd : Wd w) (h : Rd w b (rst B At E) E) :
    Calls Tryd.prog 73 #[.pointer (some ⟨b, 0, none⟩)] w fun x w' => x = .returned (uu (updR B At E).1) ∧ Rd w' b (rst B (updR B At E).2.1 (updR B At E).2.2) (updR B At E).2.2 ∧ w.grownBy w' (some b) := by
  have hm' : B.size ≤ maxLen := by unfold maxLen; omega
  have hA1 := rawA_le B At E hA
  have HK := Lib.hid (fun w hd h => knd_any B At E b hA hm' w hd h)
  have HY := Lib.hid (fun w hd h => key_any B (rawA B At E) (kndE B At E) b hA1 hm w hd h)
  have hA2 := txtA_le B (rawA B At E) (kndE B At E) 16 hA1
  have HS := Lib.hid (fun w hd h => sgn_any B (txtA B (rawA B At E) (kndE B At E) 16) (keyE B (rawA B At E) (kndE B At E)) b hb hA2 hm' w hd h)
  have HX := Lib.hid (fun w hd h => txt_any B (txtA B (rawA B At E) (kndE B At E) 16) (keyE B (rawA B At E) (kndE B At E)) 32 b hA2 hm (by decide) (by decide) w hd h)
  have hc := updC B At E hA
  generalize updR B At E = r at *
  cases hc with
  | a h1 =>
    have hz := numE_zero B At E 5 hA h1
    have e1 : kndE B At E = numE B At E 5 := by unfold kndE; rw [if_pos hz, failE_dead _ _ h1]
    rw [e1] at HK HY
    rw [hz] at HK
    obtain ⟨d1, d2⟩ := dead_txt B (rawA B At E) _ 16 h1
    have e2 : keyE B (rawA B At E) (numE B At E 5) = numE B At E 5 := by unfold keyE; rw [d1, d2, if_pos emp0, failE_dead _ _ h1]
    have hx : ∀ A, rst B A (numE B At E 5) = ⟨#[]⟩ := fun A => rst_dead B A _ h1
    simp only [e2, hx] at HY HK ⊢
    exact crd_0z b _ _ _ _ _ _ _ h1 hb w hd h HK HY
  | b h1 h2 =>
    have e1 : kndE B At E = 5 := by unfold kndE; rw [if_pos h2, h1, failE_live]
    rw [e1] at HK HY
    rw [h2] at HK
    obtain ⟨d1, d2⟩ := dead_txt B (rawA B At E) 5 16 (by decide)
    have e2 : keyE B (rawA B At E) 5 = 5 := by unfold keyE; rw [d1, d2, if_pos emp0]; rfl
    have hx : ∀ A, rst B A 5 = ⟨#[]⟩ := fun A => rst_dead B A _ (by decide)
    simp only [e2, hx] at HY HK ⊢
    exact crd_0z b _ _ _ _ _ _ _ (by decide) hb w hd h HK HY
  | c A1 e1 k hk h1 h2 h3 =>
    subst e1
    have k1 : kndE B At E = 0 := by unfold kndE; rw [if_neg (by omega), h1]
    rw [k1] at HK HY HS HX
    rw [h2] at HK
    have hz := txtE_zero B _ 0 16 hA1 h3
    have e2 : keyE B (rawA B At E) 0 = txtE B (rawA B At E) 0 16 := by unfold keyE; rw [hz, if_pos emp0, failE_dead _ _ h3]
    rw [e2] at HY HS HX
    obtain ⟨d1, d2⟩ := dead_txt B (txtA B (rawA B At E) 0 16) _ 32 h3
    obtain ⟨s1, s2⟩ := dead_sgn B (txtA B (rawA B At E) 0 16) _ h3
    have hx : ∀ A, rst B A (txtE B (rawA B At E) 0 16) = ⟨#[]⟩ := fun A => rst_dead B A _ h3
    simp only [s1, s2, d1, d2, hx] at HS HX HY ⊢
    obtain rfl | rfl | rfl | rfl | rfl : k = 1 ∨ k = 2 ∨ k = 3 ∨ k = 4 ∨ k = 5 := by omega
    · exact crd_1z b _ _ _ _ _ _ _ _ _ _ h3 hb w hd h HK HY HS
    · exact crd_2z b _ _ _ _ _ _ _ _ _ _ h3 hb w hd h HK HY HX
    · exact crd_3z b _ _ _ _ _ _ _ _ _ _ h3 hb w hd h HK HY HS
    · exact crd_4z b _ _ _ _ _ _ _ _ _ _ h3 hb w hd h HK HY HX
    · exact crd_5z b _ _ _ _ _ _ _ h3 hb w hd h HK HY
  | d A1 e1 k hk h1 h2 h3 h4 =>
    subst e1
    have k1 : kndE B At E = 0 := by unfold kndE; rw [if_neg (by omega), h1]
    rw [k1] at HK HY HS HX
    rw [h2] at HK
    have e2 : keyE B (rawA B At E) 0 = 1 := by unfold keyE; rw [h4, if_pos emp0, h3, failE_live]
    rw [e2] at HY HS HX
    have h3' : (1 : Int) ≠ 0 := by decide
    obtain ⟨d1, d2⟩ := dead_txt B (txtA B (rawA B At E) 0 16) _ 32 h3'
    obtain ⟨s1, s2⟩ := dead_sgn B (txtA B (rawA B At E) 0 16) _ h3'
    have hx : ∀ A, rst B A 1 = ⟨#[]⟩ := fun A => rst_dead B A _ h3'
    simp only [s1, s2, d1, d2, hx] at HS HX HY ⊢
    obtain rfl | rfl | rfl | rfl | rfl : k = 1 ∨ k = 2 ∨ k = 3 ∨ k = 4 ∨ k = 5 := by omega
    · exact crd_1z b _ _ _ _ _ _ _ _ _ _ h3' hb w hd h HK HY HS
    · exact crd_2z b _ _ _ _ _ _ _ _ _ _ h3' hb w hd h HK HY HX
    · exact crd_3z b _ _ _ _ _ _ _ _ _ _ h3' hb w hd h HK HY HS
    · exact crd_4z b _ _ _ _ _ _ _ _ _ _ h3' hb w hd h HK HY HX
    · exact crd_5z b _ _ _ _ _ _ _ h3' hb w hd h HK HY
  | e A1 A2 e1 e2 k hk h1 h2 h3 y h4 hy h5 =>
    subst e1 e2 h4
    have k1 : kndE B At E = 0 := by unfold kndE; rw [if_neg (by omega), h1]
    rw [k1] at HK HY HS HX
    rw [h2] at HK
    have k2 : keyE B (rawA B At E) 0 = 0 := by unfold keyE; rw [if_neg (by omega), h3]
    rw [k2] at HY HS HX
    rcases hk with rfl | rfl
    · exact crd_1z b _ _ _ _ _ _ _ _ _ _ h5 hb w hd h HK HY HS
    · exact crd_3z b _ _ _ _ _ _ _ _ _ _ h5 hb w hd h HK HY HS
  | f A1 A2 e1 e2 k hk h1 h2 h3 y h4 hy h5 =>
    subst e1 e2 h4
    have k1 : kndE B At E = 0 := by unfold kndE; rw [if_neg (by omega), h1]
    rw [k1] at HK HY HS HX
    rw [h2] at HK
    have k2 : keyE B (rawA B At E) 0 = 0 := by unfold keyE; rw [if_neg (by omega), h3]
    rw [k2] at HY HS HX
    rw [h5] at HS
    rcases hk with rfl | rfl
    · exact crd_1 b _ _ _ _ _ _ _ _ _ hb w hd h HK HY HS
    · exact crd_3 b _ _ _ _ _ _ _ _ _ hb w hd h HK HY HS
  | g A1 A2 e1 e2 k hk h1 h2 h3 y h4 hy h5 =>
    subst e1 e2 h4
    have k1 : kndE B At E = 0 := by unfold kndE; rw [if_neg (by omega), h1]
    rw [k1] at HK HY HS HX
    rw [h2] at HK
    have k2 : keyE B (rawA B At E) 0 = 0 := by unfold keyE; rw [if_neg (by omega), h3]
    rw [k2] at HY HS HX
    rcases hk with rfl | rfl
    · exact crd_2z b _ _ _ _ _ _ _ _ _ _ h5 hb w hd h HK HY HX
    · exact crd_4z b _ _ _ _ _ _ _ _ _ _ h5 hb w hd h HK HY HX
  | h A1 A2 e1 e2 k hk h1 h2 h3 y h4 hy h5 =>
    subst e1 e2 h4
    have k1 : kndE B At E = 0 := by unfold kndE; rw [if_neg (by omega), h1]
    rw [k1] at HK HY HS HX
    rw [h2] at HK
    have k2 : keyE B (rawA B At E) 0 = 0 := by unfold keyE; rw [if_neg (by omega), h3]
    rw [k2] at HY HS HX
    rw [h5] at HX
    rcases hk with rfl | rfl
    · exact crd_2 b _ _ _ _ _ _ _ _ _ hb w hd h HK HY HX
    · exact crd_4 b _ _ _ _ _ _ _ _ _ hb w hd h HK HY HX
  | i A1 A2 e1 e2 h1 h2 h3 y h4 hy =>
    subst e1 e2 h4
    have k1 : kndE B At E = 0 := by unfold kndE; rw [if_neg (by omega), h1]
    rw [k1] at HK HY HS HX
    rw [h2] at HK
    have k2 : keyE B (rawA B At E) 0 = 0 := by unfold keyE; rw [if_neg (by omega), h3]
    rw [k2] at HY HS HX
    exact crd_5 b _ _ _ _ _ _ hb w hd h HK HY
end Go.Proofs.YtjmkdgjdemndaaaDoor.X
