/- A commit of a body, walked: the next word, a number, the parents' lines. -/
import Derived.Test.YtmjffngpaoaflaaGreatDoorOe
namespace Go.Proofs.YtmjffngpaoaflaaGreatDoor
namespace Ob
open Go.RowKit Go.Shelf
theorem hasp_c (a p : List UInt8) (w : World) : Calls Tryz.prog 75 #[.string (bs a), .string (bs p)] w fun e w' => e = .returned (.bool (p.isPrefixOf a)) ∧ w = w' := by
  have h := hasPrefix_any (bs a) (bs p) w
  rw [pre_bs] at h
  exact h.mono fun _ _ h => ⟨h.1, h.2.symm⟩
set_option maxHeartbeats 400000 in
theorem next_any (N : Nat) (wd L : List UInt8) (bd : Bool) (w : World) (hR : Rdr w N (bs L) bd) (hw : wd.length ≤ 1000) :
    Calls Tryz.prog 45 #[.pointer (some ⟨N, 0, none⟩), .string (bs wd)] w fun e w' => e = .returned (.bool (hasW wd L)) ∧ w = w' := by
  have c0 := hR.c0
  have HP : Hid (∀ w, Calls Tryz.prog 75 #[.string (bs L), .string (bs (wd ++ [32]))] w fun e w' => e = .returned (.bool (hasW wd L)) ∧ w = w') := hideIt (fun w => hasp_c L (wd ++ [32]) w)
  have q : bs wd ++ ⟨#[32]⟩ = bs (wd ++ [32]) := by rw [show (⟨#[32]⟩ : ByteArray) = bs [32] from rfl, bs_append]
  have sz : (bs wd).size ≤ 1000 := by rw [bs_size]; exact hw
  obtain ⟨B, hB⟩ : ∃ B, bs (wd ++ [32]) = B := ⟨_, rfl⟩
  obtain ⟨D, hD⟩ : ∃ D, bs wd = D := ⟨_, rfl⟩
  rw [hB] at HP q
  rw [hD] at sz q ⊢
  have t1 : ¬ 9223372036854775807 < D.size + 1 := by omega
  clear hR hB hD
  go_enter Tryz.func45, Tryz.ntmps45
  go_wp2_with (first | (go_at_call 75; refine (HP.out _).mono ?_; rintro e w2 ⟨rfl, rfl⟩))
  go_ret
  exact ⟨rfl, rfl⟩
/-- The number that digits tell; 0, if they are none. -/
def undN (L : List UInt8) : Nat := (Cb.Dd.und L).getD 0
def undO (L : List UInt8) : Bool := (Cb.Dd.und L).isSome
theorem udV_eq (L : List UInt8) : Cb.udV (Cb.Dd.und L) = .tuple #[.int .u64 (undN L : Int), .int .i64 (if undO L = true then 0 else 6)] := by
  unfold undN undO
  cases Cb.Dd.und L with
  | none => rfl
  | some t => rfl
set_option maxHeartbeats 1600000 in
set_option maxRecDepth 100000 in
theorem takeNumber_any (N : Nat) (wd L : List UInt8) (bd : Bool) (w : World) (hR : Rdr w N (bs L) bd) (hL : L.length ≤ 1000000) (hw : wd.length ≤ 1000) (hk : Ok w) (hK : ∀ w', w.grownBy w' (some N) → Ok w') :
    Calls Tryz.prog 47 #[.pointer (some ⟨N, 0, none⟩), .string (bs wd)] w fun e w' => e = .returned (.int .u64 (undN (tkT wd L) : Int)) ∧ Rdr w' N (bs (tkR L)) (bd || !(tkO wd L && undO (tkT wd L))) ∧ w.grownBy w' (some N) := by
  have HT := hideIt (take_any N wd L bd w hR hL hw hk.max)
  have HU := hideIt (fun w h => undec_c (tkT wd L) w (by have := tkT_len wd L; omega) h)
  have HKK := hideIt hK
  rw [udV_eq] at HU
  obtain ⟨T, hT⟩ : ∃ T, bs (tkT wd L) = T := ⟨_, rfl⟩
  obtain ⟨U, hU⟩ : ∃ U, undN (tkT wd L) = U := ⟨_, rfl⟩
  obtain ⟨o, ho⟩ : ∃ o, tkO wd L = o := ⟨_, rfl⟩
  obtain ⟨u, hu⟩ : ∃ u, undO (tkT wd L) = u := ⟨_, rfl⟩
  obtain ⟨R, hRr⟩ : ∃ R, bs (tkR L) = R := ⟨_, rfl⟩
  rw [hT, ho, hRr] at HT
  rw [hT, hU, hu] at HU
  rw [hU, ho, hu, hRr]
  have HX : (bd || !(o && u)) = ((bd || !o) || !u) := by cases bd <;> cases o <;> cases u <;> rfl
  obtain ⟨x, hx⟩ : ∃ x, (bd || !o) = x := ⟨_, rfl⟩
  rw [hx] at HX HT
  rw [HX]
  clear hT hU ho hu hRr hR hx HX hk hK
  cases u with
  | true =>
    have HU2 : Hid (∀ w, Ok w → Calls Tryz.prog 58 #[.string T] w fun e w' => e = .returned (.tuple #[.int .u64 (U : Int), .int .i64 0]) ∧ Below w.heap.size w w') := HU
    clear HU
    go_enter Tryz.func47, Tryz.ntmps47
    go_wp2_with (first | (go_at_call 46; refine HT.out.mono ?_; rintro e w1 ⟨rfl, hr1, hg1⟩; have HR1 := hideIt hr1) | (go_at_call 58; refine (HU2.out _ (HKK.out _ hg1)).mono ?_; rintro e w2 ⟨rfl, hb2⟩; have HR2 := hideIt (HR1.out.below hb2); have c0 := HR2.out.c0; have c1 := HR2.out.c1; have f0 := HR2.out.f0; have f1 := HR2.out.f1))
    all_goals go_ret
    all_goals exact ⟨rfl, Rdr.cast (HR2.out.set1 _) (by simp_all), (hg1.trans (grown_of hb2 _)).trans (grown_set _ _ _ _)⟩
  | false =>
    have HU2 : Hid (∀ w, Ok w → Calls Tryz.prog 58 #[.string T] w fun e w' => e = .returned (.tuple #[.int .u64 (U : Int), .int .i64 6]) ∧ Below w.heap.size w w') := HU
    clear HU
    go_enter Tryz.func47, Tryz.ntmps47
    go_wp2_with (first | (go_at_call 46; refine HT.out.mono ?_; rintro e w1 ⟨rfl, hr1, hg1⟩; have HR1 := hideIt hr1) | (go_at_call 58; refine (HU2.out _ (HKK.out _ hg1)).mono ?_; rintro e w2 ⟨rfl, hb2⟩; have HR2 := hideIt (HR1.out.below hb2); have c0 := HR2.out.c0; have c1 := HR2.out.c1; have f0 := HR2.out.f0; have f1 := HR2.out.f1))
    all_goals go_ret
    all_goals exact ⟨rfl, Rdr.cast (HR2.out.set1 _) (by simp_all), (hg1.trans (grown_of hb2 _)).trans (grown_set _ _ _ _)⟩
end Ob
end Go.Proofs.YtmjffngpaoaflaaGreatDoor
