/- The document's lines, tags and commits: plain readings. -/
import Derived.Test.YtmjffngpaoaflaaGreatDoorOg
import Derived.Test.YtmjffngpaoaflaaGreatDoorPd
import Derived.Test.YtmjffngpaoaflaaGreatDoorPo
namespace Go.Proofs.YtmjffngpaoaflaaGreatDoor
namespace Ob
open Go.RowKit Go.Shelf
/-- What the document's line tells, and what it leaves. -/
def lnT (wd L : List UInt8) : List UInt8 := if tkO wd L = true then tkT wd L else []
def lnR (wd L : List UInt8) : List UInt8 := if tkO wd L = true then tkR L else L
theorem lnV_eq (wd L : List UInt8) : lnV wd L = .tuple #[.string (bs (lnT wd L)), .string (bs (lnR wd L)), .bool (tkO wd L)] := by
  unfold lnV lnT lnR
  cases h : tkO wd L with
  | true => simp
  | false => simp; rfl
theorem lnT_len (wd L : List UInt8) : (lnT wd L).length ≤ L.length := by
  unfold lnT
  split
  · exact tkT_len wd L
  · simp
theorem lnR_len (wd L : List UInt8) : (lnR wd L).length ≤ L.length := by
  unfold lnR
  split
  · exact tkR_len L
  · exact Nat.le_refl _
theorem idO_eq (L : List UInt8) : idO L = decide ((unhB L).size = 32) := by
  unfold idO unhO unhB
  cases h : Cb.Cd.unhexL L with
  | none => rfl
  | some t => simp
/-- The tag that the document reads. -/
def dTt (L : List UInt8) : Tg := ⟨unhB (lnT objectW L), kn (lnT kindW (lnR objectW L)), bs (lnT nameW (lnR kindW (lnR objectW L))), bs ((lnR nameW (lnR kindW (lnR objectW L))).drop 1)⟩
theorem gT_doc (L : List UInt8) : gT L = if (tkO objectW L && tkO kindW (lnR objectW L) && tkO nameW (lnR kindW (lnR objectW L)) && txO (lnR nameW (lnR kindW (lnR objectW L))) && !decide ((dTt L).kd = 0) && decide ((dTt L).tgt.size = 32)) = true then (if tagE (dTt L) = 0 then (dTt L, 0) else (tgZ, tagE (dTt L))) else (tgZ, 6) := by
  unfold gT
  cases h1 : tkO objectW L with
  | false =>
    have : gTo L = false := by unfold gTo; rw [h1]; simp
    rw [this, if_neg (by simp), if_neg (by simp)]
  | true =>
    have r1 : lnR objectW L = tkR L := by unfold lnR; rw [if_pos h1]
    have t1 : lnT objectW L = tkT objectW L := by unfold lnT; rw [if_pos h1]
    cases h2 : tkO kindW (tkR L) with
    | false =>
      have : gTo L = false := by unfold gTo; rw [h1, h2]; simp
      rw [this, r1, h2, if_neg (by simp), if_neg (by simp)]
    | true =>
      have r2 : lnR kindW (tkR L) = tkR (tkR L) := by unfold lnR; rw [if_pos h2]
      have t2 : lnT kindW (tkR L) = tkT kindW (tkR L) := by unfold lnT; rw [if_pos h2]
      cases h3 : tkO nameW (tkR (tkR L)) with
      | false =>
        have : gTo L = false := by unfold gTo; rw [h1, h2, h3]; simp
        rw [this, r1, r2, h2, h3, if_neg (by simp), if_neg (by simp)]
      | true =>
        have r3 : lnR nameW (tkR (tkR L)) = tkR (tkR (tkR L)) := by unfold lnR; rw [if_pos h3]
        have t3 : lnT nameW (tkR (tkR L)) = tkT nameW (tkR (tkR L)) := by unfold lnT; rw [if_pos h3]
        cases h4 : txO (tkR (tkR (tkR L))) with
        | false =>
          have : gTo L = false := by unfold gTo; rw [h4]; simp
          rw [this, r1, r2, r3, h2, h3, h4, if_neg (by simp), if_neg (by simp)]
        | true =>
          have hx : txT (tkR (tkR (tkR L))) = (tkR (tkR (tkR L))).drop 1 := by unfold txT; rw [if_pos h4]
          have hd : dTt L = gTt L := by unfold dTt gTt; rw [r1, t1, r2, t2, r3, t3, hx]
          have hg : gTo L = (!decide ((dTt L).kd = 0) && decide ((dTt L).tgt.size = 32)) := by
            rw [hd]
            unfold gTo knO
            rw [h1, h2, h3, h4, idO_eq]
            simp only [Bool.true_and, Bool.and_true]
            exact Bool.and_comm _ _
          rw [r1, r2, r3, h2, h3, h4, hg, hd]
          simp only [Bool.true_and]
/-- What is read has just these bytes. -/
theorem put_get {L : List UInt8} (h : (gT L).2 = 0) : (gT L).1 = gTt L ∧ tagE (gTt L) = 0 ∧ putT (gTt L) = L := by
  unfold gT at h ⊢
  split at h
  · rename_i hg
    rw [if_pos hg]
    split at h
    · rename_i hz
      rw [if_pos hz]
      refine ⟨rfl, hz, ?_⟩
      unfold gTo at hg
      simp only [Bool.and_eq_true] at hg
      obtain ⟨⟨⟨⟨h1, h2⟩, h3, h4⟩, h5⟩, h6⟩ := hg
      have b1 := line_back objectW L h1
      have b2 := line_back kindW (tkR L) h3
      have b3 := line_back nameW (tkR (tkR L)) h5
      have b4 := tx_back _ h6
      have hk : kw (kn (tkT kindW (tkR L))) = tkT kindW (tkR L) := by
        unfold knO at h4
        have hr := kn_range (tkT kindW (tkR L))
        have : ¬ kn (tkT kindW (tkR L)) = 0 := by simpa using h4
        exact (kw_kn (tkT kindW (tkR L)) _ (by omega)).2 rfl
      unfold putT gTt
      simp only
      rw [(id_back _ h2).2, hk, bs_list, bs_list]
      conv => rhs; rw [b1, b2, b3, b4]
    · rename_i hz
      exact absurd h hz
  · cases h
end Ob
end Go.Proofs.YtmjffngpaoaflaaGreatDoor
