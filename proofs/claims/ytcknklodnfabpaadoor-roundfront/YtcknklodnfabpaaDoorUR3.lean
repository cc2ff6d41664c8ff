/- Read, by one contract. -/
import Derived.Test.YtcknklodnfabpaaDoorUR2
import Derived.Test.YtcknklodnfabpaaDoorUP
namespace Go.Proofs.YtcknklodnfabpaaDoor
open Go Go.RowKit
theorem emp0 : (⟨#[]⟩ : ByteArray).size = 0 := rfl
theorem uread_any (B : ByteArray) (At : Nat) (E : Int) (b : Nat) (hb : 0 < b) (hA : At ≤ B.size) (hm : B.size ≤ 140737488355328) (w : World) (hd : Wd w) (h : Rd w b (rst B At E) E) :
    Calls Tryd.prog 53 #[.pointer (some ⟨b, 0, none⟩)] w fun x w' => x = .returned (uu (updR B At E).1) ∧ Rd w' b (rst B (updR B At E).2.1 (updR B At E).2.2) (updR B At E).2.2 ∧ w.grownBy w' (some b) := by
  have hm' : B.size ≤ maxLen := by unfold maxLen; omega
  have hA1 := rawA_le B At E hA
  have HK := Lib.hid (fun w hd h => knd_any B At E b hA hm' w hd h)
  have HY := Lib.hid (fun w hd h => key_any B (rawA B At E) (kndE B At E) b hA1 hm w hd h)
  have hA2 := txtA_le B (rawA B At E) (kndE B At E) 16 hA1
  have HS := Lib.hid (fun w hd h => sgn_any B (txtA B (rawA B At E) (kndE B At E) 16) (keyE B (rawA B At E) (kndE B At E)) b hb hA2 hm' w hd h)
  have HX := Lib.hid (fun w hd h => txt_any B (txtA B (rawA B At E) (kndE B At E) 16) (keyE B (rawA B At E) (kndE B At E)) 32 b hA2 hm (by decide) (by decide) w hd h)
  have hc := updC B At E hA
  generalize updR B At E = r at *
  cases hc with
  | a h1 =>
    have hz := numE_zero B At E 5 hA h1
    have e1 : kndE B At E = numE B At E 5 := by unfold kndE; rw [if_pos hz, failE_dead _ _ h1]
    rw [e1] at HK HY
    rw [hz] at HK
    obtain ⟨d1, d2⟩ := dead_txt B (rawA B At E) _ 16 h1
    have e2 : keyE B (rawA B At E) (numE B At E 5) = numE B At E 5 := by unfold keyE; rw [d1, d2, if_pos emp0, failE_dead _ _ h1]
    have hx : ∀ A, rst B A (numE B At E 5) = ⟨#[]⟩ := fun A => rst_dead B A _ h1
    simp only [e2, hx] at HY HK ⊢
    exact crd_0z b _ _ _ _ _ _ _ h1 hb w hd h HK HY
  | b h1 h2 =>
    have e1 : kndE B At E = 5 := by unfold kndE; rw [if_pos h2, h1, failE_live]
    rw [e1] at HK HY
    rw [h2] at HK
    obtain ⟨d1, d2⟩ := dead_txt B (rawA B At E) 5 16 (by decide)
    have e2 : keyE B (rawA B At E) 5 = 5 := by unfold keyE; rw [d1, d2, if_pos emp0]; rfl
    have hx : ∀ A, rst B A 5 = ⟨#[]⟩ := fun A => rst_dead B A _ (by decide)
    simp only [e2, hx] at HY HK ⊢
    exact crd_0z b _ _ _ _ _ _ _ (by decide) hb w hd h HK HY
  | c A1 e1 k hk h1 h2 h3 =>
    subst e1
    have k1 : kndE B At E = 0 := by unfold kndE; rw [if_neg (by omega), h1]
    rw [k1] at HK HY HS HX
    rw [h2] at HK
    have hz := txtE_zero B _ 0 16 hA1 h3
    have e2 : keyE B (rawA B At E) 0 = txtE B (rawA B At E) 0 16 := by unfold keyE; rw [hz, if_pos emp0, failE_dead _ _ h3]
    rw [e2] at HY HS HX
    obtain ⟨d1, d2⟩ := dead_txt B (txtA B (rawA B At E) 0 16) _ 32 h3
    obtain ⟨s1, s2⟩ := dead_sgn B (txtA B (rawA B At E) 0 16) _ h3
    have hx : ∀ A, rst B A (txtE B (rawA B At E) 0 16) = ⟨#[]⟩ := fun A => rst_dead B A _ h3
    simp only [s1, s2, d1, d2, hx] at HS HX HY ⊢
    obtain rfl | rfl | rfl | rfl | rfl : k = 1 ∨ k = 2 ∨ k = 3 ∨ k = 4 ∨ k = 5 := by omega
    · exact crd_1z b _ _ _ _ _ _ _ _ _ _ h3 hb w hd h HK HY HS
    · exact crd_2z b _ _ _ _ _ _ _ _ _ _ h3 hb w hd h HK HY HX
    · exact crd_3z b _ _ _ _ _ _ _ _ _ _ h3 hb w hd h HK HY HS
    · exact crd_4z b _ _ _ _ _ _ _ _ _ _ h3 hb w hd h HK HY HX
    · exact crd_5z b _ _ _ _ _ _ _ h3 hb w hd h HK HY
  | d A1 e1 k hk h1 h2 h3 h4 =>
    subst e1
    have k1 : kndE B At E = 0 := by unfold kndE; rw [if_neg (by omega), h1]
    rw [k1] at HK HY HS HX
    rw [h2] at HK
    have e2 : keyE B (rawA B At E) 0 = 1 := by unfold keyE; rw [h4, if_pos emp0, h3, failE_live]
    rw [e2] at HY HS HX
    have h3' : (1 : Int) ≠ 0 := by decide
    obtain ⟨d1, d2⟩ := dead_txt B (txtA B (rawA B At E) 0 16) _ 32 h3'
    obtain ⟨s1, s2⟩ := dead_sgn B (txtA B (rawA B At E) 0 16) _ h3'
    have hx : ∀ A, rst B A 1 = ⟨#[]⟩ := fun A => rst_dead B A _ h3'
    simp only [s1, s2, d1, d2, hx] at HS HX HY ⊢
    obtain rfl | rfl | rfl | rfl | rfl : k = 1 ∨ k = 2 ∨ k = 3 ∨ k = 4 ∨ k = 5 := by omega
    · exact crd_1z b _ _ _ _ _ _ _ _ _ _ h3' hb w hd h HK HY HS
    · exact crd_2z b _ _ _ _ _ _ _ _ _ _ h3' hb w hd h HK HY HX
    · exact crd_3z b _ _ _ _ _ _ _ _ _ _ h3' hb w hd h HK HY HS
    · exact crd_4z b _ _ _ _ _ _ _ _ _ _ h3' hb w hd h HK HY HX
    · exact crd_5z b _ _ _ _ _ _ _ h3' hb w hd h HK HY
  | e A1 A2 e1 e2 k hk h1 h2 h3 y h4 hy h5 =>
    subst e1 e2 h4
    have k1 : kndE B At E = 0 := by unfold kndE; rw [if_neg (by omega), h1]
    rw [k1] at HK HY HS HX
    rw [h2] at HK
    have k2 : keyE B (rawA B At E) 0 = 0 := by unfold keyE; rw [if_neg (by omega), h3]
    rw [k2] at HY HS HX
    rcases hk with rfl | rfl
    · exact crd_1z b _ _ _ _ _ _ _ _ _ _ h5 hb w hd h HK HY HS
    · exact crd_3z b _ _ _ _ _ _ _ _ _ _ h5 hb w hd h HK HY HS
  | f A1 A2 e1 e2 k hk h1 h2 h3 y h4 hy h5 =>
    subst e1 e2 h4
    have k1 : kndE B At E = 0 := by unfold kndE; rw [if_neg (by omega), h1]
    rw [k1] at HK HY HS HX
    rw [h2] at HK
    have k2 : keyE B (rawA B At E) 0 = 0 := by unfold keyE; rw [if_neg (by omega), h3]
    rw [k2] at HY HS HX
    rw [h5] at HS
    rcases hk with rfl | rfl
    · exact crd_1 b _ _ _ _ _ _ _ _ _ hb w hd h HK HY HS
    · exact crd_3 b _ _ _ _ _ _ _ _ _ hb w hd h HK HY HS
  | g A1 A2 e1 e2 k hk h1 h2 h3 y h4 hy h5 =>
    subst e1 e2 h4
    have k1 : kndE B At E = 0 := by unfold kndE; rw [if_neg (by omega), h1]
    rw [k1] at HK HY HS HX
    rw [h2] at HK
    have k2 : keyE B (rawA B At E) 0 = 0 := by unfold keyE; rw [if_neg (by omega), h3]
    rw [k2] at HY HS HX
    rcases hk with rfl | rfl
    · exact crd_2z b _ _ _ _ _ _ _ _ _ _ h5 hb w hd h HK HY HX
    · exact crd_4z b _ _ _ _ _ _ _ _ _ _ h5 hb w hd h HK HY HX
  | h A1 A2 e1 e2 k hk h1 h2 h3 y h4 hy h5 =>
    subst e1 e2 h4
    have k1 : kndE B At E = 0 := by unfold kndE; rw [if_neg (by omega), h1]
    rw [k1] at HK HY HS HX
    rw [h2] at HK
    have k2 : keyE B (rawA B At E) 0 = 0 := by unfold keyE; rw [if_neg (by omega), h3]
    rw [k2] at HY HS HX
    rw [h5] at HX
    rcases hk with rfl | rfl
    · exact crd_2 b _ _ _ _ _ _ _ _ _ hb w hd h HK HY HX
    · exact crd_4 b _ _ _ _ _ _ _ _ _ hb w hd h HK HY HX
  | i A1 A2 e1 e2 h1 h2 h3 y h4 hy =>
    subst e1 e2 h4
    have k1 : kndE B At E = 0 := by unfold kndE; rw [if_neg (by omega), h1]
    rw [k1] at HK HY HS HX
    rw [h2] at HK
    have k2 : keyE B (rawA B At E) 0 = 0 := by unfold keyE; rw [if_neg (by omega), h3]
    rw [k2] at HY HS HX
    exact crd_5 b _ _ _ _ _ _ hb w hd h HK HY
end Go.Proofs.YtcknklodnfabpaaDoor
