/- Ids and texts taken from a body; tags checked and made, walked. -/
import Derived.Test.YtmjffngpaoaflaaGreatDoorOt
import Derived.Test.YtmjffngpaoaflaaGreatDoorCbAll
namespace Go.Proofs.YtmjffngpaoaflaaGreatDoor
namespace Ob
open Go.RowKit Go.Shelf
theorem unhex_c (L : List UInt8) (w : World) (h : L.length ≤ 1000000) :
    Calls Tryz.prog 74 #[.string (bs L)] w fun e w' => e = .returned (Cb.unhexV (Cb.Cd.unhexL L)) ∧ Below w.heap.size w w' := by
  have := Cb.unhex_any (bs L) w (by rw [bs_size]; exact h)
  rw [bs_list] at this
  exact this
theorem hex_c (s : ByteArray) (w : World) (h : s.size ≤ 400) :
    Calls Tryz.prog 38 #[.string s] w fun e w' => e = .returned (.string (bs (Cb.Cd.hexL s.data.toList))) ∧ Below w.heap.size w w' := Cb.hex_any s w h
theorem hexL_len (l : List UInt8) : (Cb.Cd.hexL l).length = 2 * l.length := Cb.Cd.hexL_len l
theorem Rdr.grown {w w' : World} {N M : Nat} {s : ByteArray} {b : Bool} (h : Rdr w N s b) (hg : w.grownBy w' (some M)) (hne : N ≠ M) : Rdr w' N s b := ⟨(hg.block N h.lt (by simpa using hne)).trans h.blk⟩
/-- The bytes that digits tell; none, if they are no digits. -/
def unhB (L : List UInt8) : ByteArray := bs ((Cb.Cd.unhexL L).getD [])
def unhO (L : List UInt8) : Bool := (Cb.Cd.unhexL L).isSome
theorem unhV_eq (L : List UInt8) : Cb.unhexV (Cb.Cd.unhexL L) = .tuple #[.string (unhB L), .int .i64 (if unhO L = true then 0 else 6)] := by
  unfold unhB unhO
  cases Cb.Cd.unhexL L with
  | none => rfl
  | some t => rfl
theorem unhexL_len : ∀ (n : Nat) (L t : List UInt8), L.length ≤ n → Cb.Cd.unhexL L = some t → t.length ≤ L.length
  | _, [], t, _, h => by simp [Cb.Cd.unhexL] at h; simp [h]
  | _, [_], t, _, h => by simp [Cb.Cd.unhexL] at h
  | 0, _ :: _ :: _, _, hn, _ => by simp at hn
  | n + 1, a :: b :: r, t, hn, h => by
    rw [Cb.Cd.unhexL] at h
    split at h
    · rw [Option.map_eq_some_iff] at h
      obtain ⟨x, hx, rfl⟩ := h
      have := unhexL_len n r x (by simp at hn; omega) hx
      simp
      omega
    · cases h
theorem unh_len (L : List UInt8) : (unhB L).size ≤ L.length := by
  unfold unhB
  rw [bs_size]
  cases h : Cb.Cd.unhexL L with
  | none => simp
  | some t => exact unhexL_len _ L t (Nat.le_refl _) h
theorem clone_c (L : List UInt8) (w : World) (h : L.length ≤ 1000000) : Calls Tryz.prog 25 #[.string (bs L)] w fun e w' => e = .returned (.string (bs L)) ∧ Below w.heap.size w w' := clone_any (bs L) w (by rw [bs_size]; omega)
theorem results_c2 {fn : Func} {p u : Tmp} {ty : TypeId} (h : fn.results = #[.cell p ty, .tmp u]) (tmps : Array Value) (P : Program) (w : World) :
    (results fn tmps).run P w = ((asAddr (tmps.getD p undef)).run P w).andThen fun a w₁ => ((loadVar ty a).run P w₁).andThen fun x w₂ => .ok (.tuple #[x, tmps.getD u undef]) w₂ := by
  simp only [results, h]
  simp [Sem.run_bind, Result.andThen]
theorem hex_no10 (l : List UInt8) : (10 : UInt8) ∉ Cb.Cd.hexL l := by
  induction l with
  | nil => simp [Cb.Cd.hexL]
  | cons b t ih =>
    have hd : ∀ k : Fin 16, Cb.Cd.dig k.val ≠ 10 := by decide
    have h1 := hd ⟨b.toNat / 16, by have := b.toNat_lt; omega⟩
    have h2 := hd ⟨b.toNat % 16, by omega⟩
    rw [Cb.Cd.hexL]
    simp only [List.mem_cons, not_or]
    exact ⟨fun e => h1 e.symm, fun e => h2 e.symm, ih⟩
/-- Are digits an id's? -/
def idO (L : List UInt8) : Bool := unhO L && decide ((unhB L).size = 32)
theorem unh_hex (s : ByteArray) : unhB (Cb.Cd.hexL s.data.toList) = s ∧ unhO (Cb.Cd.hexL s.data.toList) = true := by
  have hu : Cb.Cd.unhexL (Cb.Cd.hexL s.data.toList) = some s.data.toList := Cb.Cd.unhex_hex _
  unfold unhB unhO
  rw [hu]
  exact ⟨by simp only [Option.getD_some]; exact bs_data s, rfl⟩
theorem id_hex (s : ByteArray) (h : s.size = 32) : idO (Cb.Cd.hexL s.data.toList) = true := by
  unfold idO
  rw [(unh_hex s).1, (unh_hex s).2, decide_eq_true h]
  rfl
theorem dig_val : ∀ b : UInt8, Cb.Cd.val b < 16 → Cb.Cd.dig (Cb.Cd.val b) = b := by
  have h : ∀ k : Fin 256, Cb.Cd.val (UInt8.ofNat k.val) < 16 → Cb.Cd.dig (Cb.Cd.val (UInt8.ofNat k.val)) = UInt8.ofNat k.val := by decide +kernel
  intro b
  have := h ⟨b.toNat, b.toNat_lt⟩
  rwa [UInt8.ofNat_toNat] at this
theorem hex_unhex : ∀ (n : Nat) (L t : List UInt8), L.length ≤ n → Cb.Cd.unhexL L = some t → Cb.Cd.hexL t = L
  | _, [], t, _, h => by simp [Cb.Cd.unhexL] at h; subst h; rfl
  | _, [_], t, _, h => by simp [Cb.Cd.unhexL] at h
  | 0, _ :: _ :: _, _, hn, _ => by simp at hn
  | n + 1, a :: b :: r, t, hn, h => by
    rw [Cb.Cd.unhexL] at h
    split at h
    · rename_i hv
      rw [Option.map_eq_some_iff] at h
      obtain ⟨x, hx, rfl⟩ := h
      have ih := hex_unhex n r x (by simp at hn; omega) hx
      have e : (UInt8.ofNat (16 * Cb.Cd.val a + Cb.Cd.val b)).toNat = 16 * Cb.Cd.val a + Cb.Cd.val b := by rw [UInt8.toNat_ofNat']; omega
      rw [Cb.Cd.hexL, e, ih, show (16 * Cb.Cd.val a + Cb.Cd.val b) / 16 = Cb.Cd.val a by omega, show (16 * Cb.Cd.val a + Cb.Cd.val b) % 16 = Cb.Cd.val b by omega, dig_val a hv.1, dig_val b hv.2]
    · cases h
/-- What digits tell of an id is told by just these digits. -/
theorem id_back (L : List UInt8) (h : idO L = true) : (unhB L).size = 32 ∧ Cb.Cd.hexL (unhB L).data.toList = L := by
  unfold idO at h
  rw [Bool.and_eq_true] at h
  refine ⟨of_decide_eq_true h.2, ?_⟩
  have h1 := h.1
  unfold unhO at h1
  unfold unhB
  rw [bs_list]
  cases hu : Cb.Cd.unhexL L with
  | none => rw [hu] at h1; cases h1
  | some t => exact hex_unhex _ L t (Nat.le_refl _) hu
theorem mayBeID_w (s : ByteArray) (w : World) : Calls Tryz.prog 40 #[.string s] w fun e w' => e = .returned (.bool (decide (s.size = 32))) ∧ w = w' := (mayBeID_any s w).mono fun _ _ h => ⟨h.1, h.2.symm⟩
set_option maxHeartbeats 1600000 in
set_option maxRecDepth 100000 in
theorem takeID_any (N : Nat) (wd L : List UInt8) (bd : Bool) (w : World) (hR : Rdr w N (bs L) bd) (hL : L.length ≤ 1000000) (hw : wd.length ≤ 1000) (hm : MaxAt w) :
    Calls Tryz.prog 44 #[.pointer (some ⟨N, 0, none⟩), .string (bs wd)] w fun e w' => e = .returned (.string (unhB (tkT wd L))) ∧ Rdr w' N (bs (tkR L)) (bd || !(tkO wd L && idO (tkT wd L))) ∧ w.grownBy w' (some N) := by
  have HT := hideIt (take_any N wd L bd w hR hL hw hm)
  have HU := hideIt (fun w => unhex_c (tkT wd L) w (by have := tkT_len wd L; omega))
  have HI := hideIt (fun w => mayBeID_w (unhB (tkT wd L)) w)
  have hd : idO (tkT wd L) = (unhO (tkT wd L) && decide ((unhB (tkT wd L)).size = 32)) := rfl
  rw [hd]
  rw [unhV_eq] at HU
  obtain ⟨T, hT⟩ : ∃ T, bs (tkT wd L) = T := ⟨_, rfl⟩
  obtain ⟨U, hU⟩ : ∃ U, unhB (tkT wd L) = U := ⟨_, rfl⟩
  obtain ⟨o, ho⟩ : ∃ o, tkO wd L = o := ⟨_, rfl⟩
  obtain ⟨u, hu⟩ : ∃ u, unhO (tkT wd L) = u := ⟨_, rfl⟩
  obtain ⟨R, hRr⟩ : ∃ R, bs (tkR L) = R := ⟨_, rfl⟩
  rw [hT, ho, hRr] at HT
  rw [hT, hU, hu] at HU
  rw [hU] at HI
  rw [hU, ho, hu, hRr]
  obtain ⟨i, hi⟩ : ∃ i, decide (U.size = 32) = i := ⟨_, rfl⟩
  rw [hi] at HI ⊢
  have HX : (bd || !(o && (u && i))) = (((bd || !o) || !u) || !i) := by cases bd <;> cases o <;> cases u <;> cases i <;> rfl
  obtain ⟨x, hx⟩ : ∃ x, (bd || !o) = x := ⟨_, rfl⟩
  rw [hx] at HX HT
  rw [HX]
  clear hT hU ho hu hRr hR hx HX hm hd hi
  cases u with
  | true =>
    have HU2 : Hid (∀ w, Calls Tryz.prog 74 #[.string T] w fun e w' => e = .returned (.tuple #[.string U, .int .i64 0]) ∧ Below w.heap.size w w') := HU
    clear HU
    cases x with
    | true =>
      go_enter Tryz.func44, Tryz.ntmps44
      go_wp2_with (first | (go_at_call 46; refine HT.out.mono ?_; rintro e w1 ⟨rfl, hr1, hg1⟩; have HR1 := hideIt hr1) | (go_at_call 74; refine (HU2.out _).mono ?_; rintro e w2 ⟨rfl, hb2⟩; have HR2 := hideIt (HR1.out.below hb2); have c0 := HR2.out.c0; have c1 := HR2.out.c1; have f0 := HR2.out.f0; have f1 := HR2.out.f1))
      all_goals go_ret
      all_goals exact ⟨rfl, Rdr.cast (HR2.out.set1 _) (by simp_all), (hg1.trans (grown_of hb2 _)).trans (grown_set _ _ _ _)⟩
    | false =>
      cases i with
      | true =>
        go_enter Tryz.func44, Tryz.ntmps44
        go_wp2_with (first | (go_at_call 46; refine HT.out.mono ?_; rintro e w1 ⟨rfl, hr1, hg1⟩; have HR1 := hideIt hr1) | (go_at_call 74; refine (HU2.out _).mono ?_; rintro e w2 ⟨rfl, hb2⟩; have HR2 := hideIt (HR1.out.below hb2); have c0 := HR2.out.c0; have c1 := HR2.out.c1; have f0 := HR2.out.f0; have f1 := HR2.out.f1) | (go_at_call 40; refine (HI.out _).mono ?_; rintro e w3 ⟨rfl, rfl⟩))
        all_goals go_ret
        all_goals exact ⟨rfl, Rdr.cast (HR2.out.set1 _) (by simp_all), (hg1.trans (grown_of hb2 _)).trans (grown_set _ _ _ _)⟩
      | false =>
        go_enter Tryz.func44, Tryz.ntmps44
        go_wp2_with (first | (go_at_call 46; refine HT.out.mono ?_; rintro e w1 ⟨rfl, hr1, hg1⟩; have HR1 := hideIt hr1) | (go_at_call 74; refine (HU2.out _).mono ?_; rintro e w2 ⟨rfl, hb2⟩; have HR2 := hideIt (HR1.out.below hb2); have c0 := HR2.out.c0; have c1 := HR2.out.c1; have f0 := HR2.out.f0; have f1 := HR2.out.f1) | (go_at_call 40; refine (HI.out _).mono ?_; rintro e w3 ⟨rfl, rfl⟩))
        all_goals go_ret
        all_goals exact ⟨rfl, Rdr.cast (HR2.out.set1 _) (by simp_all), (hg1.trans (grown_of hb2 _)).trans (grown_set _ _ _ _)⟩
  | false =>
    have HU2 : Hid (∀ w, Calls Tryz.prog 74 #[.string T] w fun e w' => e = .returned (.tuple #[.string U, .int .i64 6]) ∧ Below w.heap.size w w') := HU
    clear HU
    go_enter Tryz.func44, Tryz.ntmps44
    go_wp2_with (first | (go_at_call 46; refine HT.out.mono ?_; rintro e w1 ⟨rfl, hr1, hg1⟩; have HR1 := hideIt hr1) | (go_at_call 74; refine (HU2.out _).mono ?_; rintro e w2 ⟨rfl, hb2⟩; have HR2 := hideIt (HR1.out.below hb2); have c0 := HR2.out.c0; have c1 := HR2.out.c1; have f0 := HR2.out.f0; have f1 := HR2.out.f1))
    all_goals go_ret
    all_goals exact ⟨rfl, Rdr.cast (HR2.out.set1 _) (by simp_all), (hg1.trans (grown_of hb2 _)).trans (grown_set _ _ _ _)⟩
set_option maxHeartbeats 1600000 in
set_option maxRecDepth 100000 in
theorem takeText_any (N : Nat) (L : List UInt8) (bd : Bool) (w : World) (hR : Rdr w N (bs L) bd) :
    Calls Tryz.prog 48 #[.pointer (some ⟨N, 0, none⟩)] w fun e w' => e = .returned (.string (bs (txT L))) ∧ Rdr w' N ⟨#[]⟩ (bd || !txO L) ∧ w.grownBy w' (some N) := by
  have HR := hideIt hR
  have c0 := hR.c0
  have c1 := hR.c1
  have f0 := hR.f0
  have f1 := hR.f1
  have HP : Hid (∀ w, Calls Tryz.prog 76 #[.string (bs L), .string ⟨#[10]⟩] w fun e w' => e = .returned (.tuple #[.string (bs (txT L)), .bool (txO L)]) ∧ w = w') := hideIt (fun w => by
    have h := cutp_c L [10] w
    have e1 : (if ([10] : List UInt8).isPrefixOf L = true then L.drop ([10] : List UInt8).length else L) = txT L := by unfold txT txO; simp
    rw [e1] at h
    exact h.mono fun _ _ h => ⟨h.1, h.2.symm⟩)
  obtain ⟨o, ho⟩ : ∃ o, txO L = o := ⟨_, rfl⟩
  rw [ho] at HP ⊢
  clear hR ho
  go_enter Tryz.func48, Tryz.ntmps48
  go_wp2_with (first | (go_at_call 76; refine (HP.out _).mono ?_; rintro e w2 ⟨rfl, rfl⟩))
  all_goals go_ret
  all_goals exact ⟨rfl, Rdr.cast ((HR.out.set1 _).set0 _) (by simp_all), (grown_set _ _ _ _).trans (grown_set _ _ _ _)⟩
end Ob
end Go.Proofs.YtmjffngpaoaflaaGreatDoor
