/- Ids and texts taken from a body; tags checked and made, walked. -/
import Derived.Test.YtkgnhojnknejmaaGreatDoorOt
import Derived.Test.YtkgnhojnknejmaaGreatDoorCbUnhexw
namespace Go.Proofs.YtkgnhojnknejmaaGreatDoor
namespace Ob
open Go.RowKit Go.Shelf
theorem unhex_c (L : List UInt8) (w : World) (h : L.length ≤ 1000000) :
    Calls Tryz.prog 73 #[.string (bs L)] w fun e w' => e = .returned (Cb.unhexV (Cb.Cd.unhexL L)) ∧ Below w.heap.size w w' := by
  have := Cb.unhex_any (bs L) w (by rw [bs_size]; exact h)
  rw [bs_list] at this
  exact this
theorem hex_c (s : ByteArray) (w : World) (h : s.size ≤ 400) :
    Calls Tryz.prog 38 #[.string s] w fun e w' => e = .returned (.string (bs (Cb.Cd.hexL s.data.toList))) ∧ Below w.heap.size w w' := Cb.hex_any s w h
theorem hexL_len (l : List UInt8) : (Cb.Cd.hexL l).length = 2 * l.length := Cb.Cd.hexL_len l
theorem Rdr.grown {w w' : World} {N M : Nat} {s : ByteArray} {b : Bool} (h : Rdr w N s b) (hg : w.grownBy w' (some M)) (hne : N ≠ M) : Rdr w' N s b := ⟨(hg.block N h.lt (by simpa using hne)).trans h.blk⟩
/-- The bytes that digits tell; none, if they are no digits. -/
def unhB (L : List UInt8) : ByteArray := bs ((Cb.Cd.unhexL L).getD [])
def unhO (L : List UInt8) : Bool := (Cb.Cd.unhexL L).isSome
theorem unhV_eq (L : List UInt8) : Cb.unhexV (Cb.Cd.unhexL L) = .tuple #[.string (unhB L), .int .i64 (if unhO L = true then 0 else 6)] := by
  unfold unhB unhO
  cases Cb.Cd.unhexL L with
  | none => rfl
  | some t => rfl
set_option maxHeartbeats 1600000 in
set_option maxRecDepth 100000 in
theorem takeID_any (N : Nat) (wd L : List UInt8) (bd : Bool) (w : World) (hR : Rdr w N (bs L) bd) (hL : L.length ≤ 1000000) (hw : wd.length ≤ 1000) (hm : MaxAt w) :
    Calls Tryz.prog 44 #[.pointer (some ⟨N, 0, none⟩), .string (bs wd)] w fun e w' => e = .returned (.string (unhB (tkT wd L))) ∧ Rdr w' N (bs (tkR L)) (bd || !(tkO wd L && unhO (tkT wd L))) ∧ w.grownBy w' (some N) := by
  have HT := hideIt (take_any N wd L bd w hR hL hw hm)
  have HU := hideIt (fun w => unhex_c (tkT wd L) w (by have := tkT_len wd L; omega))
  rw [unhV_eq] at HU
  obtain ⟨T, hT⟩ : ∃ T, bs (tkT wd L) = T := ⟨_, rfl⟩
  obtain ⟨U, hU⟩ : ∃ U, unhB (tkT wd L) = U := ⟨_, rfl⟩
  obtain ⟨o, ho⟩ : ∃ o, tkO wd L = o := ⟨_, rfl⟩
  obtain ⟨u, hu⟩ : ∃ u, unhO (tkT wd L) = u := ⟨_, rfl⟩
  obtain ⟨R, hRr⟩ : ∃ R, bs (tkR L) = R := ⟨_, rfl⟩
  rw [hT, ho, hRr] at HT
  rw [hT, hU, hu] at HU
  rw [hU, ho, hu, hRr]
  have HX : (bd || !(o && u)) = ((bd || !o) || !u) := by cases bd <;> cases o <;> cases u <;> rfl
  obtain ⟨x, hx⟩ : ∃ x, (bd || !o) = x := ⟨_, rfl⟩
  rw [hx] at HX HT
  rw [HX]
  clear hT hU ho hu hRr hR hx HX hm
  cases u with
  | true =>
    have HU2 : Hid (∀ w, Calls Tryz.prog 73 #[.string T] w fun e w' => e = .returned (.tuple #[.string U, .int .i64 0]) ∧ Below w.heap.size w w') := HU
    clear HU
    go_enter Tryz.func44, Tryz.ntmps44
    go_wp2_with (first | (go_at_call 46; refine HT.out.mono ?_; rintro e w1 ⟨rfl, hr1, hg1⟩; have HR1 := hideIt hr1) | (go_at_call 73; refine (HU2.out _).mono ?_; rintro e w2 ⟨rfl, hb2⟩; have HR2 := hideIt (HR1.out.below hb2); have c0 := HR2.out.c0; have c1 := HR2.out.c1; have f0 := HR2.out.f0; have f1 := HR2.out.f1))
    all_goals go_ret
    all_goals exact ⟨rfl, Rdr.cast (HR2.out.set1 _) (by simp_all), (hg1.trans (grown_of hb2 _)).trans (grown_set _ _ _ _)⟩
  | false =>
    have HU2 : Hid (∀ w, Calls Tryz.prog 73 #[.string T] w fun e w' => e = .returned (.tuple #[.string U, .int .i64 6]) ∧ Below w.heap.size w w') := HU
    clear HU
    go_enter Tryz.func44, Tryz.ntmps44
    go_wp2_with (first | (go_at_call 46; refine HT.out.mono ?_; rintro e w1 ⟨rfl, hr1, hg1⟩; have HR1 := hideIt hr1) | (go_at_call 73; refine (HU2.out _).mono ?_; rintro e w2 ⟨rfl, hb2⟩; have HR2 := hideIt (HR1.out.below hb2); have c0 := HR2.out.c0; have c1 := HR2.out.c1; have f0 := HR2.out.f0; have f1 := HR2.out.f1))
    all_goals go_ret
    all_goals exact ⟨rfl, Rdr.cast (HR2.out.set1 _) (by simp_all), (hg1.trans (grown_of hb2 _)).trans (grown_set _ _ _ _)⟩
set_option maxHeartbeats 1600000 in
set_option maxRecDepth 100000 in
theorem takeText_any (N : Nat) (L : List UInt8) (bd : Bool) (w : World) (hR : Rdr w N (bs L) bd) :
    Calls Tryz.prog 48 #[.pointer (some ⟨N, 0, none⟩)] w fun e w' => e = .returned (.string (bs (txT L))) ∧ Rdr w' N ⟨#[]⟩ (bd || !txO L) ∧ w.grownBy w' (some N) := by
  have HR := hideIt hR
  have c0 := hR.c0
  have c1 := hR.c1
  have f0 := hR.f0
  have f1 := hR.f1
  have HP : Hid (∀ w, Calls Tryz.prog 75 #[.string (bs L), .string ⟨#[10]⟩] w fun e w' => e = .returned (.tuple #[.string (bs (txT L)), .bool (txO L)]) ∧ w = w') := hideIt (fun w => by
    have h := cutp_c L [10] w
    have e1 : (if ([10] : List UInt8).isPrefixOf L = true then L.drop ([10] : List UInt8).length else L) = txT L := by unfold txT txO; simp
    rw [e1] at h
    exact h.mono fun _ _ h => ⟨h.1, h.2.symm⟩)
  obtain ⟨o, ho⟩ : ∃ o, txO L = o := ⟨_, rfl⟩
  rw [ho] at HP ⊢
  clear hR ho
  go_enter Tryz.func48, Tryz.ntmps48
  go_wp2_with (first | (go_at_call 75; refine (HP.out _).mono ?_; rintro e w2 ⟨rfl, rfl⟩))
  all_goals go_ret
  all_goals exact ⟨rfl, Rdr.cast ((HR.out.set1 _).set0 _) (by simp_all), (grown_set _ _ _ _).trans (grown_set _ _ _ _)⟩
end Ob
end Go.Proofs.YtkgnhojnknejmaaGreatDoor
