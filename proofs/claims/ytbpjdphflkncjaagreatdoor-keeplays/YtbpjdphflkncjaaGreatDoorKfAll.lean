/- A file laid by way of another one: plain pictures; what a fall leaves of them. Lay where a fall is planned, walked: it strikes at one of the steps, or behind them. The calls at such a place: new, awake, planned, behind a fall; a name cleared. The law KeepLays, walked whole. -/
import Derived.Test.YtbpjdphflkncjaaGreatDoorVcAll2
import Derived.Test.YtbpjdphflkncjaaGreatDoorKqAll
namespace Go.Proofs.YtbpjdphflkncjaaGreatDoor.Kf
open Vc Go.RowKit Go.Shelf
/-- A path, and the one by way of which its file is laid; both stand in the root. -/
structure Two (p q : ByteArray) : Prop where
  pp : pathL p.data.toList = true
  pq : pathL q.data.toList = true
  dp : dirOf p = ⟨#[]⟩
  dq : dirOf q = ⟨#[]⟩
  ne : q ≠ p
  sp : p.size ≤ 1000
  sq : q.size ≤ 1000
/-- Nothing but these two may be there; all is sure. -/
structure Stl (p q : ByteArray) (S : Fs) (o : Option ByteArray) : Prop where
  names : ∀ r, r ≠ p → r ≠ q → S.now r = none
  file : (o = none ∧ S.now p = none) ∨ ∃ s x, o = some s ∧ x < S.came ∧ S.now p = some (some x) ∧ S.files x = ⟨s, s⟩
  by' : S.now q = none ∨ ∃ x, x < S.came ∧ S.now q = some (some x)
  sure : S.sure = S.now
  acts : S.acts = []
/-- And nothing is coming. -/
def Wh (p q : ByteArray) (S : Fs) (o : Option ByteArray) : Prop := Stl p q S o ∧ S.now q = none
theorem wh_no {p q : ByteArray} (room : Nat) : Wh p q (noFs room) none := ⟨⟨fun _ _ _ => rfl, .inl ⟨rfl, rfl⟩, .inl rfl, rfl, rfl⟩, rfl⟩
section
variable {p q t : ByteArray} {S S' : Fs} {o : Option ByteArray} {u k : Int}
theorem Stl.dir (h : Stl p q S o) (hp : pathL p.data.toList = true) : isDir S.now p = false := by
  have h0 := ne_of_path hp
  have h1 : p.data.toList.isEmpty = false := by simpa using h0
  unfold isDir
  rw [h1]
  rcases h.file with ⟨_, e⟩ | ⟨s, x, _, _, e, _⟩
  · rw [e]; rfl
  · rw [e]; rfl
theorem Stl.dirq (h : Stl p q S o) (hp : pathL q.data.toList = true) : isDir S.now q = false := by
  have h0 := ne_of_path hp
  have h1 : q.data.toList.isEmpty = false := by simpa using h0
  unfold isDir
  rw [h1]
  rcases h.by' with e | ⟨x, _, e⟩
  · rw [e]; rfl
  · rw [e]; rfl
noncomputable def syT (S : Fs) (q t : ByteArray) : Fs := { S.fresh q t with files := updF (S.fresh q t).files S.came ⟨t, t⟩, steps := (S.fresh q t).steps + 1 }
noncomputable def mvT (S : Fs) (q p t : ByteArray) (u : Int) : Fs := Kq.setU ((syT S q t).enact ⟨1, q, p, some S.came⟩) u
theorem root_of {d : ByteArray} (h : dirOf d = ⟨#[]⟩) (n : Nm) : isDir n (dirOf d) = true := by rw [h]; rfl
theorem syT_all (S : Fs) (q t : ByteArray) : (syT S q t).now = (S.fresh q t).now ∧ (syT S q t).sure = (S.fresh q t).sure ∧ (syT S q t).acts = (S.fresh q t).acts ∧ (syT S q t).files = updF (S.fresh q t).files S.came ⟨t, t⟩ ∧ (syT S q t).came = (S.fresh q t).came ∧ (syT S q t).steps = S.steps + 2 := ⟨rfl, rfl, rfl, rfl, rfl, rfl⟩
theorem fresh_steps (S : Fs) (q t : ByteArray) : (S.fresh q t).steps = S.steps + 1 ∧ (S.fresh q t).room = S.room ∧ (S.fresh q t).used = S.used + (t.size : Int) := ⟨rfl, rfl, rfl⟩
theorem syT_rest (S : Fs) (q t : ByteArray) : (syT S q t).room = S.room ∧ (syT S q t).used = S.used + (t.size : Int) := ⟨rfl, rfl⟩
theorem mvT_rest (S : Fs) (q p t : ByteArray) (u : Int) : (mvT S q p t u).steps = S.steps + 3 ∧ (mvT S q p t u).room = S.room ∧ (mvT S q p t u).used = u := ⟨rfl, rfl, rfl⟩
theorem dir_rest (T : Fs) (d : ByteArray) : (T.syncDir d).steps = T.steps + 1 ∧ (T.syncDir d).room = T.room ∧ (T.syncDir d).used = T.used := ⟨rfl, rfl, rfl⟩
theorem fr_now (h : Wh p q S o) (hT : Two p q) (t : ByteArray) : (S.fresh q t).now = fun r => if r = q then some (some S.came) else S.now r := by
  rw [Kq.fresh_at, Kq.doN_comes h.2 (root_of hT.dq _)]
theorem sy_now (h : Wh p q S o) (hT : Two p q) (t : ByteArray) : (syT S q t).now = fun r => if r = q then some (some S.came) else S.now r := by
  rw [(syT_all S q t).1, fr_now h hT]
theorem sy_q (h : Wh p q S o) (hT : Two p q) (t : ByteArray) : (syT S q t).now q = some (some S.came) := by rw [sy_now h hT]; simp
theorem sy_p (h : Wh p q S o) (hT : Two p q) (t : ByteArray) : (syT S q t).now p = S.now p := by rw [sy_now h hT]; simp [Ne.symm hT.ne]
theorem sy_pv (h : Wh p q S o) (hT : Two p q) (t : ByteArray) : pvN (syT S q t).now q = some S.came := by
  unfold pvN
  rw [sy_q h hT]
theorem sy_dir (h : Wh p q S o) (hT : Two p q) (t : ByteArray) : isDir (syT S q t).now p = false := by
  have := h.1.dir hT.pp
  unfold isDir at this ⊢
  rw [sy_p h hT]
  exact this
theorem mv_at (S : Fs) (q p t : ByteArray) (u : Int) : (mvT S q p t u).now = doN (syT S q t).now ⟨1, q, p, some S.came⟩ := by
  unfold mvT
  rw [(Kq.setU_at _ _).1, (Kq.enact_at _ _).1]
theorem mv_now (h : Wh p q S o) (hT : Two p q) (t : ByteArray) (u : Int) : (mvT S q p t u).now = fun r => if r = p then some (some S.came) else if r = q then none else S.now r := by
  rw [mv_at, Kq.doN_moves (root_of hT.dp _) (sy_dir h hT t) (sy_pv h hT t)]
  funext r
  by_cases e : r = p
  · rw [if_pos e, if_pos e]
  · rw [if_neg e, if_neg e]
    by_cases e2 : r = q
    · rw [if_pos e2, if_pos e2]
    · rw [if_neg e2, if_neg e2, sy_now h hT]
      simp only [if_neg e2]
theorem in_root_q (hT : Two p q) (x : Option Nat) : inP ⟨#[]⟩ ⟨0, q, ⟨#[]⟩, x⟩ = true := by
  unfold inP inB
  rw [show dirOf (⟨0, q, ⟨#[]⟩, x⟩ : Pa).p = ⟨#[]⟩ from hT.dq]
  simp
theorem in_root_mv (hT : Two p q) (x : Option Nat) : inP ⟨#[]⟩ ⟨1, q, p, x⟩ = true := by
  unfold inP inB
  rw [show dirOf (⟨1, q, p, x⟩ : Pa).p = ⟨#[]⟩ from hT.dq]
  simp
theorem in_root_rm {r : ByteArray} (hr : dirOf r = ⟨#[]⟩) (x : Option Nat) : inP ⟨#[]⟩ ⟨2, r, ⟨#[]⟩, x⟩ = true := by
  unfold inP inB
  rw [show dirOf (⟨2, r, ⟨#[]⟩, x⟩ : Pa).p = ⟨#[]⟩ from hr]
  simp
theorem mv_acts (h : Wh p q S o) (t : ByteArray) (u : Int) : (mvT S q p t u).acts = [⟨0, q, ⟨#[]⟩, some S.came⟩, ⟨1, q, p, some S.came⟩] := by
  unfold mvT
  rw [(Kq.setU_at _ _).2.2.1, (Kq.enact_at _ _).2.2.1, (syT_all S q t).2.2.1, (Kq.fresh_all S q t).2.1, h.1.acts, List.nil_append, List.singleton_append]
theorem mv_sure (h : Wh p q S o) (t : ByteArray) (u : Int) : (mvT S q p t u).sure = S.now := by
  unfold mvT
  rw [(Kq.setU_at _ _).2.1, (Kq.enact_at _ _).2.1, (syT_all S q t).2.1, (Kq.fresh_all S q t).1, h.1.sure]
theorem mv_files (S : Fs) (q p t : ByteArray) (u : Int) : (mvT S q p t u).files = updF (updF S.files S.came ⟨t, ⟨#[]⟩⟩) S.came ⟨t, t⟩ ∧ (mvT S q p t u).came = S.came + 1 := by
  unfold mvT
  rw [(Kq.setU_at _ _).2.2.2.1, (Kq.setU_at _ _).2.2.2.2.1, (Kq.enact_at _ _).2.2.2.1, (Kq.enact_at _ _).2.2.2.2, (syT_all S q t).2.2.2.1, (syT_all S q t).2.2.2.2.1, (Kq.fresh_all S q t).2.2.1, (Kq.fresh_all S q t).2.2.2]
  exact ⟨rfl, rfl⟩
/-- All of it: the file holds the new bytes. -/
theorem lay_wh (h : Wh p q S o) (hT : Two p q) (t : ByteArray) (u : Int) : Wh p q ((mvT S q p t u).syncDir ⟨#[]⟩) (some t) := by
  obtain ⟨hn, hs, ha, hf, hc⟩ := Kq.dir_at (mvT S q p t u) ⟨#[]⟩
  obtain ⟨hf2, hc2⟩ := mv_files S q p t u
  have hs2 : ((mvT S q p t u).syncDir ⟨#[]⟩).sure = (mvT S q p t u).now := by
    rw [hs, mv_acts h, mv_sure h, mv_at, (syT_all S q t).1, Kq.fresh_at]
    simp only [List.filter_cons, in_root_q hT, in_root_mv hT, List.filter_nil, if_true, List.foldl_cons, List.foldl_nil]
  have hq : ((mvT S q p t u).syncDir ⟨#[]⟩).now q = none := by
    rw [hn, mv_now h hT]
    simp [hT.ne]
  refine ⟨⟨fun r hr hr2 => ?_, .inr ⟨t, S.came, rfl, ?_, ?_, ?_⟩, .inl hq, by rw [hs2, hn], ?_⟩, hq⟩
  · rw [hn, mv_now h hT]
    simp only [if_neg hr, if_neg hr2]
    exact h.1.names r hr hr2
  · rw [hc, hc2]
    omega
  · rw [hn, mv_now h hT]
    simp
  · rw [hf, hf2]
    simp [updF]
  · rw [ha, mv_acts h]
    simp [in_root_q hT, in_root_mv hT]
theorem sub_one {α : Type} {l : List α} {a : α} (h : l.Sublist [a]) : l = [] ∨ l = [a] := by
  cases h with
  | cons _ h => exact .inl (List.sublist_nil.1 h)
  | cons_cons _ h => exact .inr (by rw [List.sublist_nil.1 h])
theorem sub_two {α : Type} {l : List α} {a b : α} (h : l.Sublist [a, b]) : l = [] ∨ l = [a] ∨ l = [b] ∨ l = [a, b] := by
  cases h with
  | cons _ h => rcases sub_one h with e | e <;> simp [e]
  | cons_cons _ h => rcases sub_one h with e | e <;> simp [e]
/-- What a fall leaves where nothing, or the coming file's name, is kept. -/
theorem fell_old {T : Fs} {l' : List Pa} (h : Wh p q S o) (hT : Two p q) (hf : Fell T S' k) (hn : S'.now = l'.foldl doN S.now) (hl : l' = [] ∨ l' = [⟨0, q, ⟨#[]⟩, some S.came⟩]) (hc : S.came < T.came) (hfl : ∀ x, x < S.came → T.files x = S.files x) (hs : S'.sure = S'.now) : Stl p q S' o := by
  have hp : S'.now p = S.now p := by
    rcases hl with e | e
    · rw [hn, e]; rfl
    · rw [hn, e, List.foldl_cons, List.foldl_nil, Kq.doN_comes h.2 (root_of hT.dq _)]
      simp [Ne.symm hT.ne]
  have hcm := hf.came
  refine ⟨fun r hr hr2 => ?_, ?_, ?_, hs, hf.acts⟩
  · rcases hl with e | e
    · rw [hn, e]; exact h.1.names r hr hr2
    · rw [hn, e, List.foldl_cons, List.foldl_nil, Kq.doN_comes h.2 (root_of hT.dq _)]
      simp only [if_neg hr2]
      exact h.1.names r hr hr2
  · rcases h.1.file with ⟨e1, e2⟩ | ⟨s, x, e1, e2, e3, e4⟩
    · exact .inl ⟨e1, by rw [hp]; exact e2⟩
    · exact .inr ⟨s, x, e1, by rw [hcm]; omega, by rw [hp]; exact e3, by rw [hf.same x (by rw [hfl x e2, e4]), hfl x e2, e4]⟩
  · rcases hl with e | e
    · left; rw [hn, e]; exact h.2
    · right
      refine ⟨S.came, by rw [hcm]; exact hc, ?_⟩
      rw [hn, e, List.foldl_cons, List.foldl_nil, Kq.doN_comes h.2 (root_of hT.dq _)]
      simp
theorem fell0 (h : Wh p q S o) (hf : Fell S S' k) : Wh p q S' o := by
  obtain ⟨l', hl, _, h1, h2⟩ := hf.names
  rw [h.1.acts] at hl
  have e := List.sublist_nil.1 hl
  rw [e] at h1
  have hn : S'.now = S.now := by rw [h1]; exact h.1.sure
  refine ⟨⟨fun r hr hr2 => by rw [hn]; exact h.1.names r hr hr2, ?_, .inl (by rw [hn]; exact h.2), h2, hf.acts⟩, by rw [hn]; exact h.2⟩
  rcases h.1.file with ⟨e1, e2⟩ | ⟨s, x, e1, e2, e3, e4⟩
  · exact .inl ⟨e1, by rw [hn]; exact e2⟩
  · exact .inr ⟨s, x, e1, by rw [hf.came]; exact e2, by rw [hn]; exact e3, by rw [hf.same x (by rw [e4]), e4]⟩
theorem fell_stl (h : Stl p q S o) (hf : Fell S S' k) : Stl p q S' o := by
  obtain ⟨l', hl, _, h1, h2⟩ := hf.names
  rw [h.acts] at hl
  have e := List.sublist_nil.1 hl
  rw [e] at h1
  have hn : S'.now = S.now := by rw [h1]; exact h.sure
  refine ⟨fun r hr hr2 => by rw [hn]; exact h.names r hr hr2, ?_, by rw [hn, hf.came]; exact h.by', h2, hf.acts⟩
  rcases h.file with ⟨e1, e2⟩ | ⟨s, x, e1, e2, e3, e4⟩
  · exact .inl ⟨e1, by rw [hn]; exact e2⟩
  · exact .inr ⟨s, x, e1, by rw [hf.came]; exact e2, by rw [hn]; exact e3, by rw [hf.same x (by rw [e4]), e4]⟩
theorem upd_old (f : Nat → Fl) (c : Nat) (v : Fl) (x : Nat) (hx : x < c) : updF f c v x = f x := by
  unfold updF
  rw [if_neg (by omega)]
theorem fell1 (h : Wh p q S o) (hT : Two p q) (hf : Fell (S.fresh q t) S' k) : Stl p q S' o := by
  obtain ⟨l', hl, _, h1, h2⟩ := hf.names
  rw [(Kq.fresh_all S q t).2.1, h.1.acts, List.nil_append] at hl
  rw [(Kq.fresh_all S q t).1, h.1.sure] at h1
  exact fell_old h hT hf h1 (sub_one hl) (by rw [(Kq.fresh_all S q t).2.2.2]; omega) (fun x hx => by rw [(Kq.fresh_all S q t).2.2.1, upd_old _ _ _ _ hx]) h2
theorem fell2 (h : Wh p q S o) (hT : Two p q) (hf : Fell (syT S q t) S' k) : Stl p q S' o := by
  obtain ⟨l', hl, _, h1, h2⟩ := hf.names
  rw [(syT_all S q t).2.2.1, (Kq.fresh_all S q t).2.1, h.1.acts, List.nil_append] at hl
  rw [(syT_all S q t).2.1, (Kq.fresh_all S q t).1, h.1.sure] at h1
  exact fell_old h hT hf h1 (sub_one hl) (by rw [(syT_all S q t).2.2.2.2.1, (Kq.fresh_all S q t).2.2.2]; omega) (fun x hx => by rw [(syT_all S q t).2.2.2.1, (Kq.fresh_all S q t).2.2.1, upd_old _ _ _ _ hx, upd_old _ _ _ _ hx]) h2
theorem fell3 (h : Wh p q S o) (hT : Two p q) (hf : Fell (mvT S q p t u) S' k) : Stl p q S' o ∨ Stl p q S' (some t) := by
  obtain ⟨l', hl, _, h1, h2⟩ := hf.names
  obtain ⟨f1, f2⟩ := mv_files S q p t u
  rw [mv_acts h] at hl
  rw [mv_sure h] at h1
  have hold : l' = [] ∨ l' = [⟨0, q, ⟨#[]⟩, some S.came⟩] → Stl p q S' o := fun e =>
    fell_old h hT hf h1 e (by rw [f2]; omega) (fun x hx => by rw [f1, upd_old _ _ _ _ hx, upd_old _ _ _ _ hx]) h2
  have hnew : S'.now = (fun r => if r = p then some (some S.came) else if r = q then none else S.now r) → Stl p q S' (some t) := fun hn => by
    have hq : S'.now q = none := by rw [hn]; simp [hT.ne]
    refine ⟨fun r hr hr2 => ?_, .inr ⟨t, S.came, rfl, by rw [hf.came, f2]; omega, by rw [hn]; simp, ?_⟩, .inl hq, h2, hf.acts⟩
    · rw [hn]
      simp only [if_neg hr, if_neg hr2]
      exact h.1.names r hr hr2
    · have e : (mvT S q p t u).files S.came = ⟨t, t⟩ := by rw [f1]; simp [updF]
      rw [hf.same S.came (by rw [e]), e]
  rcases sub_two hl with e | e | e | e
  · exact .inl (hold (.inl e))
  · exact .inl (hold (.inr e))
  · right
    refine hnew ?_
    rw [h1, e, List.foldl_cons, List.foldl_nil]
    unfold doN
    rw [if_neg (by show ¬ (1 : Nat) = 0; omega), if_pos rfl, if_pos ⟨root_of hT.dp _, .inl (h.1.dir hT.pp)⟩]
    have hpv : pvN S.now q = none := by unfold pvN; rw [h.2]
    funext r
    simp only [hpv]
    by_cases e1 : r = p
    · simp [e1]
    · simp only [if_neg e1]
      by_cases e2 : r = q
      · rw [e2, h.2]; simp
      · simp [e2]
  · right
    refine hnew ?_
    rw [h1, e, List.foldl_cons, List.foldl_cons, List.foldl_nil, ← Kq.fresh_at S q t, ← (syT_all S q t).1, ← mv_at S q p t u]
    exact mv_now h hT t u
/-- A file of the two is taken away, for sure. -/
noncomputable def rmT (S : Fs) (r : ByteArray) (u : Int) : Fs := (Kq.setU (S.enact ⟨2, r, ⟨#[]⟩, pvN S.now r⟩) u).syncDir ⟨#[]⟩
theorem rm_all {r : ByteArray} (h : Stl p q S o) (hr : dirOf r = ⟨#[]⟩) (hd : isDir S.now r = false) (h0 : S.now r ≠ none) (u : Int) : (rmT S r u).now = (fun z => if z = r then none else S.now z) ∧ (rmT S r u).sure = (rmT S r u).now ∧ (rmT S r u).acts = [] ∧ (rmT S r u).files = S.files ∧ (rmT S r u).came = S.came := by
  obtain ⟨hn, hs, ha, hf, hc⟩ := Kq.dir_at (Kq.setU (S.enact ⟨2, r, ⟨#[]⟩, pvN S.now r⟩) u) ⟨#[]⟩
  obtain ⟨s1, s2, s3, s4, s5, _⟩ := Kq.setU_at (S.enact ⟨2, r, ⟨#[]⟩, pvN S.now r⟩) u
  obtain ⟨e1, e2, e3, e4, e5⟩ := Kq.enact_at S ⟨2, r, ⟨#[]⟩, pvN S.now r⟩
  have hdo : doN S.now ⟨2, r, ⟨#[]⟩, pvN S.now r⟩ = fun z => if z = r then none else S.now z := by
    unfold doN
    rw [if_neg (by show ¬ (2 : Nat) = 0; omega), if_neg (by show ¬ (2 : Nat) = 1; omega), if_pos ⟨h0, rfl, .inl hd⟩]
  have hN : (rmT S r u).now = (fun z => if z = r then none else S.now z) := by
    unfold rmT
    rw [hn, s1, e1, hdo]
  refine ⟨hN, ?_, ?_, ?_, ?_⟩
  · rw [hN]
    unfold rmT
    rw [hs, s2, s3, e2, e3, h.acts, h.sure, List.nil_append]
    simp only [List.filter_cons, in_root_rm hr, List.filter_nil, if_true, List.foldl_cons, List.foldl_nil]
    exact hdo
  · unfold rmT
    rw [ha, s3, e3, h.acts, List.nil_append]
    simp [in_root_rm hr]
  · unfold rmT
    rw [hf, s4, e4]
  · unfold rmT
    rw [hc, s5, e5]
theorem rm_p (h : Stl p q S o) (hT : Two p q) (h0 : S.now p ≠ none) (u : Int) : Stl p q (rmT S p u) none := by
  obtain ⟨hn, hs, ha, hf, hc⟩ := rm_all h hT.dp (h.dir hT.pp) h0 u
  refine ⟨fun r hr hr2 => ?_, .inl ⟨rfl, by rw [hn]; simp⟩, ?_, hs, ha⟩
  · rw [hn]
    simp only [if_neg hr]
    exact h.names r hr hr2
  · rw [hn, hc]
    simp only [if_neg hT.ne]
    exact h.by'
theorem rm_q (h : Stl p q S o) (hT : Two p q) (h0 : S.now q ≠ none) (u : Int) : Wh p q (rmT S q u) o := by
  obtain ⟨hn, hs, ha, hf, hc⟩ := rm_all h hT.dq (h.dirq hT.pq) h0 u
  have hq : (rmT S q u).now q = none := by rw [hn]; simp
  have hp : (rmT S q u).now p = S.now p := by rw [hn]; simp [Ne.symm hT.ne]
  refine ⟨⟨fun r hr hr2 => ?_, ?_, .inl hq, hs, ha⟩, hq⟩
  · rw [hn]
    simp only [if_neg hr2]
    exact h.names r hr hr2
  · rw [hp, hc, hf]
    exact h.file
end
end Go.Proofs.YtbpjdphflkncjaaGreatDoor.Kf
namespace Go.Proofs.YtbpjdphflkncjaaGreatDoor.Kf
open Vc Go.RowKit Go.Shelf
/-- A whole with power and no plan; one with a plan; one without power. -/
def Alive (n0 : Nat) (w0 : World) (fb B : Nat) (Q : Fs → Prop) (w : World) : Prop := ∃ (pl : Value) (A : Nat → Prop) (b : Nat) (S : Fs), Quiet pl ∧ b ≤ B ∧ Kq.Okn n0 w ∧ Rep pl n0 A b w fb S ∧ Q S ∧ Below n0 w0 w
def ReadyAt (n0 : Nat) (w0 : World) (fb B : Nat) (pl : Value) (g : Nat) (t k n : Int) (S : Fs) (w : World) : Prop := ∃ (A : Nat → Prop) (b : Nat), PlanAt w pl g t k n ∧ ¬ A g ∧ b ≤ B ∧ Kq.Okn n0 w ∧ Rep pl n0 A b w fb S ∧ Below n0 w0 w
def Ready (n0 : Nat) (w0 : World) (fb B : Nat) (Q : Fs → Prop) (t k n : Int) (w : World) : Prop := ∃ (pl : Value) (g : Nat) (S : Fs), Q S ∧ ReadyAt n0 w0 fb B pl g t k n S w
def Fallen (n0 : Nat) (w0 : World) (fb B : Nat) (Q : Fs → Prop) (w : World) : Prop := ∃ (pl : Value) (A : Nat → Prop) (b : Nat) (S : Fs), Quiet pl ∧ b ≤ B ∧ Kq.Okn n0 w ∧ Dead pl n0 A b w fb S ∧ Q S ∧ Below n0 w0 w
section
variable {n0 : Nat} {w0 w w' : World} {fb B B' b b' g room : Nat} {A : Nat → Prop} {pl : Value} {S S' : Fs} {Q Q' : Fs → Prop} {t k n : Int}
theorem Alive.mono (h : Alive n0 w0 fb B Q w) (hB : B ≤ B') (hQ : ∀ S, Q S → Q' S) : Alive n0 w0 fb B' Q' w := by
  obtain ⟨pl, A, b, S, h1, h2, h3, h4, h5, h6⟩ := h
  exact ⟨pl, A, b, S, h1, by omega, h3, h4, hQ S h5, h6⟩
theorem Fallen.mono (h : Fallen n0 w0 fb B Q w) (hB : B ≤ B') (hQ : ∀ S, Q S → Q' S) : Fallen n0 w0 fb B' Q' w := by
  obtain ⟨pl, A, b, S, h1, h2, h3, h4, h5, h6⟩ := h
  exact ⟨pl, A, b, S, h1, by omega, h3, h4, hQ S h5, h6⟩
theorem Alive.below (h : Alive n0 w0 fb B Q w) (hb : Below w.heap.size w w') : Alive n0 w0 fb B Q w' := by
  obtain ⟨pl, A, b, S, h1, h2, h3, h4, h5, h6⟩ := h
  have hb' := hb.mono h3.nw
  exact ⟨pl, A, b, S, h1, h2, h3.step hb', h4.keep (Kept.of_below hb), h5, h6.trans hb'⟩
theorem Ready.below (h : Ready n0 w0 fb B Q t k n w) (hb : Below w.heap.size w w') : Ready n0 w0 fb B Q t k n w' := by
  obtain ⟨pl, g, S, h1, A, b, h2, h3, h4, h5, h6, h7⟩ := h
  have hb' := hb.mono h5.nw
  obtain ⟨c, cur, e, h8, h9, hg, h10⟩ := h2
  exact ⟨pl, g, S, h1, A, b, ⟨c, cur, e, h8, h9, (Kept.of_below hb).fs hg (by simp), h10⟩, h3, h4, h5.step hb', h6.keep (Kept.of_below hb), h7.trans hb'⟩
theorem plan_out (h : PlanAt w pl g t k n) (hA : ¬ A g) (hO : Out A w w') : PlanAt w' pl g t k n := by
  obtain ⟨c, cur, e, h1, h2, h3, h4⟩ := h
  exact ⟨c, cur, e, h1, h2, hO.same g _ h3 hA, h4⟩
theorem plan_lt (h : PlanAt w pl g t k n) : g < w.heap.size := by
  obtain ⟨c, cur, e, h1, h2, h3, h4⟩ := h
  exact block_lt h3
theorem ready_of (hok : Kq.Okn n0 w) (hlo : ∀ g, A g → n0 ≤ g) (hb : Below n0 w0 w) (hp : PlanAt w pl g t k n) (hg : ¬ A g) (hr : RepTo pl n0 A b w fb S w') (hB : b ≤ B) : ReadyAt n0 w0 fb B pl g t k n S w' := by
  obtain ⟨A2, k1, k2, k3⟩ := hr
  have hbn := k3.below hok.nw hlo
  exact ⟨A2, b, plan_out hp hg k3, fun ha => (k1 g ha).elim hg (fun e => by have := plan_lt hp; omega), hB, hok.step hbn, k2, hb.trans hbn⟩
theorem alive_of (hok : Kq.Okn n0 w) (hlo : ∀ g, A g → n0 ≤ g) (hb : Below n0 w0 w) (hq : Quiet pl) (hr : RepTo pl n0 A b w fb S w') (hB : b ≤ B) (hQ : Q S) : Alive n0 w0 fb B Q w' := by
  obtain ⟨A2, k1, k2, k3⟩ := hr
  have hbn := k3.below hok.nw hlo
  exact ⟨pl, A2, b, S, hq, hB, hok.step hbn, k2, hQ, hb.trans hbn⟩
theorem fallen_of (hok : Kq.Okn n0 w) (hlo : ∀ g, A g → n0 ≤ g) (hb : Below n0 w0 w) (hq : Quiet pl) (hr : DeadTo pl n0 A b w fb S w') (hB : b ≤ B) (hQ : Q S) : Fallen n0 w0 fb B Q w' := by
  obtain ⟨A2, k1, k2, k3⟩ := hr
  have hbn := k3.below hok.nw hlo
  exact ⟨pl, A2, b, S, hq, hB, hok.step hbn, k2, hQ, hb.trans hbn⟩
/-- It strikes. -/
theorem struck_of (hok : Kq.Okn n0 w) (hlo : ∀ g, A g → n0 ≤ g) (hb : Below n0 w0 w) (hr : Struck n0 A b w fb S k w') (hB : b + 1 ≤ B) (hQ : ∀ S', Fell S S' k → Q S') : Fallen n0 w0 fb B Q w' := by
  obtain ⟨pl', S', h1, h2, h3⟩ := hr
  exact fallen_of hok hlo hb h1 h3 hB (hQ S' h2)
end
section
variable {n0 : Nat} {w0 w w' : World} {fb B g room U : Nat} {pl : Value} {S : Fs} {t k n : Int} {p q tx : ByteArray} {o : Option ByteArray}
theorem wr_q (h : Wh p q S o) (hT : Two p q) : S.wrN q = 0 := by
  unfold Fs.wrN
  rw [if_pos hT.pq, if_pos (root_of hT.dq _), h.1.dirq hT.pq]
  rfl
theorem sy_e (h : Wh p q S o) (hT : Two p q) (tx : ByteArray) : (S.fresh q tx).syE q = 0 := by
  have hn : (S.fresh q tx).now q = some (some S.came) := by rw [fr_now h hT]; simp
  unfold Fs.syE pvN
  rw [if_pos hT.pq, hn]
  rfl
theorem rn_e (h : Wh p q S o) (hT : Two p q) (tx : ByteArray) : (syT S q tx).rnE q p = 0 := by
  unfold Fs.rnE
  rw [if_pos ⟨hT.pq, hT.pp⟩, sy_q h hT, sy_pv h hT, hT.dp, Kq.isDir_root, sy_dir h hT, Kq.toL_eq, decide_eq_false hT.ne]
  rfl
theorem r_write (h : ReadyAt n0 w0 fb B pl g t k n S w) (hW : Wh p q S o) (hT : Two p q) (hB : B < 880) (htx : tx.size ≤ 100000000) (hF : ¬ Full S.used S.room (tx.size : Int)) (ht : (S.steps : Int) < t) : Calls Tryz.prog 23 #[.pointer (some ⟨fb, 0, none⟩), .string q, .string tx] w fun e w' => e = .returned (.int .i64 0) ∧ ReadyAt n0 w0 fb (B + 1) pl g t k n (S.fresh q tx) w' := by
  obtain ⟨A, b, h1, h2, h3, h4, h5, h6⟩ := h
  refine (write_new_rep h5 (by omega) (h1.calm ht) q tx (by have := hT.sq; omega) htx (wr_q hW hT) hW.2).mono fun e w' hr => ?_
  rcases hr with ⟨hF', _⟩ | ⟨_, he, hr⟩
  · exact absurd hF' hF
  · exact ⟨he, ready_of h4 h5.lo h6 h1 h2 hr (by omega)⟩
theorem r_sync (h : ReadyAt n0 w0 fb B pl g t k n (S.fresh q tx) w) (hW : Wh p q S o) (hT : Two p q) (hB : B < 880) (ht : (S.steps : Int) + 1 < t) : Calls Tryz.prog 58 #[.pointer (some ⟨fb, 0, none⟩), .string q] w fun e w' => e = .returned (.int .i64 0) ∧ ReadyAt n0 w0 fb (B + 1) pl g t k n (syT S q tx) w' := by
  obtain ⟨A, b, h1, h2, h3, h4, h5, h6⟩ := h
  have e0 := sy_e hW hT tx
  refine (sync_rep h5 (by omega) (h1.calm (by rw [(fresh_steps S q tx).1]; omega)) q (by have := hT.sq; omega)).mono fun e w' ⟨he, hr⟩ => ?_
  rw [e0] at he
  rcases hr with ⟨h0, _⟩ | ⟨_, S', ⟨x, hx, _, hS'⟩, hR⟩
  · exact absurd e0 h0
  · have hn : (S.fresh q tx).now q = some (some S.came) := by rw [fr_now hW hT]; simp
    rw [hn] at hx
    injection hx with hx
    injection hx with hx
    subst hx
    have e1 : (S.fresh q tx).files S.came = ⟨tx, ⟨#[]⟩⟩ := by
      rw [(Kq.fresh_all S q tx).2.2.1]
      simp [updF]
    rw [e1] at hS'
    rw [hS'] at hR
    exact ⟨he, ready_of h4 h5.lo h6 h1 h2 hR (by omega)⟩
theorem r_move (h : ReadyAt n0 w0 fb B pl g t k n (syT S q tx) w) (hW : Wh p q S o) (hT : Two p q) (hB : B < 880) (ht : (S.steps : Int) + 2 < t) : Calls Tryz.prog 59 #[.pointer (some ⟨fb, 0, none⟩), .string q, .string p] w fun e w' => e = .returned (.int .i64 0) ∧ ∃ u, u ≤ S.used + (tx.size : Int) ∧ ReadyAt n0 w0 fb (B + 1) pl g t k n (mvT S q p tx u) w' := by
  obtain ⟨A, b, h1, h2, h3, h4, h5, h6⟩ := h
  have e0 := rn_e hW hT tx
  refine (rename_rep h5 (by omega) (h1.calm (by rw [(syT_all S q tx).2.2.2.2.2]; omega)) q p (by have := hT.sq; omega) (by have := hT.sp; omega)).mono fun e w' ⟨he, hr⟩ => ?_
  rw [e0] at he
  rcases hr with ⟨h0, _⟩ | ⟨_, S', ⟨u, hu, hS'⟩, hR⟩
  · exact absurd e0 h0
  · rw [sy_pv hW hT] at hS'
    rw [hS'] at hR
    exact ⟨he, u, hu, ready_of h4 h5.lo h6 h1 h2 hR (by omega)⟩
theorem r_dir {u : Int} (h : ReadyAt n0 w0 fb B pl g t k n (mvT S q p tx u) w) (hB : B < 880) (ht : (S.steps : Int) + 3 < t) : Calls Tryz.prog 60 #[.pointer (some ⟨fb, 0, none⟩), .string ⟨#[]⟩] w fun e w' => e = .returned (.int .i64 0) ∧ ReadyAt n0 w0 fb (B + 1) pl g t k n ((mvT S q p tx u).syncDir ⟨#[]⟩) w' := by
  obtain ⟨A, b, h1, h2, h3, h4, h5, h6⟩ := h
  refine (syncDir_rep h5 (by omega) (h1.calm (by rw [(mvT_rest S q p tx u).1]; omega)) ⟨#[]⟩ (by decide)).mono fun e w' ⟨he, hr⟩ => ?_
  rw [Kq.nf_root] at he
  rcases hr with ⟨h0, _⟩ | ⟨_, S', hS', hR⟩
  · exact absurd Kq.nf_root h0
  · rw [hS'] at hR
    exact ⟨he, ready_of h4 h5.lo h6 h1 h2 hR (by omega)⟩
/-- What the fall leaves. -/
def Either (p q : ByteArray) (o : Option ByteArray) (tx : ByteArray) (S : Fs) : Prop := Stl p q S o ∨ Stl p q S (some tx)
theorem s_write (h : ReadyAt n0 w0 fb B pl g t k n S w) (hW : Wh p q S o) (hT : Two p q) (hB : B < 880) (htx : tx.size ≤ 100000000) (hF : ¬ Full S.used S.room (tx.size : Int)) (ht : t = (S.steps : Int)) : Calls Tryz.prog 23 #[.pointer (some ⟨fb, 0, none⟩), .string q, .string tx] w fun e w' => e = .returned (.int .i64 7) ∧ Fallen n0 w0 fb (B + 1) (Either p q o tx) w' := by
  obtain ⟨A, b, h1, h2, h3, h4, h5, h6⟩ := h
  exact (write_struck h5 (by omega) h1 ht q tx (by have := hT.sq; omega) htx (wr_q hW hT) hW.2 hF).mono fun e w' ⟨he, hr⟩ => ⟨he, struck_of h4 h5.lo h6 hr (by omega) (fun S' hf => .inl (fell0 hW hf).1)⟩
theorem s_sync (h : ReadyAt n0 w0 fb B pl g t k n (S.fresh q tx) w) (hW : Wh p q S o) (hT : Two p q) (hB : B < 880) (ht : t = (S.steps : Int) + 1) : Calls Tryz.prog 58 #[.pointer (some ⟨fb, 0, none⟩), .string q] w fun e w' => e = .returned (.int .i64 7) ∧ Fallen n0 w0 fb (B + 1) (Either p q o tx) w' := by
  obtain ⟨A, b, h1, h2, h3, h4, h5, h6⟩ := h
  exact (sync_struck h5 (by omega) h1 (by rw [(fresh_steps S q tx).1]; omega) q (by have := hT.sq; omega) (sy_e hW hT tx)).mono fun e w' ⟨he, hr⟩ => ⟨he, struck_of h4 h5.lo h6 hr (by omega) (fun S' hf => .inl (fell1 hW hT hf))⟩
theorem s_move (h : ReadyAt n0 w0 fb B pl g t k n (syT S q tx) w) (hW : Wh p q S o) (hT : Two p q) (hB : B < 880) (ht : t = (S.steps : Int) + 2) : Calls Tryz.prog 59 #[.pointer (some ⟨fb, 0, none⟩), .string q, .string p] w fun e w' => e = .returned (.int .i64 7) ∧ Fallen n0 w0 fb (B + 1) (Either p q o tx) w' := by
  obtain ⟨A, b, h1, h2, h3, h4, h5, h6⟩ := h
  exact (rename_struck h5 (by omega) h1 (by rw [(syT_all S q tx).2.2.2.2.2]; omega) q p (by have := hT.sq; omega) (by have := hT.sp; omega) (rn_e hW hT tx)).mono fun e w' ⟨he, hr⟩ => ⟨he, struck_of h4 h5.lo h6 hr (by omega) (fun S' hf => .inl (fell2 hW hT hf))⟩
theorem s_dir {u : Int} (h : ReadyAt n0 w0 fb B pl g t k n (mvT S q p tx u) w) (hW : Wh p q S o) (hT : Two p q) (hB : B < 880) (ht : t = (S.steps : Int) + 3) : Calls Tryz.prog 60 #[.pointer (some ⟨fb, 0, none⟩), .string ⟨#[]⟩] w fun e w' => e = .returned (.int .i64 7) ∧ Fallen n0 w0 fb (B + 1) (Either p q o tx) w' := by
  obtain ⟨A, b, h1, h2, h3, h4, h5, h6⟩ := h
  exact (syncDir_struck h5 (by omega) h1 (by rw [(mvT_rest S q p tx u).1]; omega) ⟨#[]⟩ (by decide) Kq.nf_root).mono fun e w' ⟨he, hr⟩ => ⟨he, struck_of h4 h5.lo h6 hr (by omega) (fun S' hf => fell3 hW hT hf)⟩
/-- What a place with a plan keeps to ahead of a Lay. -/
def LayQ (p q : ByteArray) (room U : Nat) (t : Int) (o : Option ByteArray) (S : Fs) : Prop := Wh p q S o ∧ S.room = room ∧ S.used ≤ (U : Int) ∧ (S.steps : Int) ≤ t
set_option maxHeartbeats 3200000 in
set_option maxRecDepth 100000 in
theorem lay_ready (h : Ready n0 w0 fb B (LayQ p q room U t o) t k n w) (hT : Two p q) (hB : B < 870) (htx : tx.size ≤ 100000000) (hroom : U + tx.size ≤ room) :
    Calls Tryz.prog 26 #[.pointer (some ⟨fb, 0, none⟩), .string ⟨#[]⟩, .string q, .string p, .string tx] w fun e w' => (e = .returned (.int .i64 0) ∧ Ready n0 w0 fb (B + 4) (LayQ p q room (U + tx.size) t (some tx)) t k n w') ∨ (e = .returned (.int .i64 7) ∧ Fallen n0 w0 fb (B + 4) (Either p q o tx) w') := by
  obtain ⟨pl, g, S, ⟨hW, hr, hu, hst⟩, hR⟩ := h
  have hF : ¬ Full S.used S.room (tx.size : Int) := fun hF => by have := hF.1; rw [hr] at this; omega
  have HFAL : Hid (∀ B' X, B' ≤ B + 4 → Fallen n0 w0 fb B' (Either p q o tx) X → Fallen n0 w0 fb (B + 4) (Either p q o tx) X) := hideIt (fun B' X hB' hX => hX.mono hB' (fun _ h => h))
  have HEND : Hid (∀ X, (S.steps : Int) + 3 < t → (∃ u, u ≤ S.used + (tx.size : Int) ∧ ReadyAt n0 w0 fb (B + 1 + 1 + 1 + 1) pl g t k n ((mvT S q p tx u).syncDir ⟨#[]⟩) X) → Ready n0 w0 fb (B + 4) (LayQ p q room (U + tx.size) t (some tx)) t k n X) := hideIt (fun X h3 ⟨u, hu2, hX⟩ => ⟨pl, g, _, ⟨lay_wh hW hT tx u, by rw [(dir_rest _ _).2.1, (mvT_rest S q p tx u).2.1]; exact hr, by rw [(dir_rest _ _).2.2, (mvT_rest S q p tx u).2.2]; omega, by rw [(dir_rest _ _).1, (mvT_rest S q p tx u).1]; omega⟩, hX⟩)
  have hc : t = (S.steps : Int) ∨ t = (S.steps : Int) + 1 ∨ t = (S.steps : Int) + 2 ∨ t = (S.steps : Int) + 3 ∨ (S.steps : Int) + 3 < t := by omega
  rcases hc with hc | hc | hc | hc | hc
  · have H1 := hideIt (s_write (tx := tx) hR hW hT (by omega) htx hF hc)
    clear hc hR hW hr hu hst hF htx hroom
    go_enter Tryz.func26, Tryz.ntmps26
    go_wp2_with (first | (go_at_call 23; refine H1.out.mono ?_; rintro e w1 ⟨rfl, t1⟩))
    go_ret
    exact .inr ⟨rfl, HFAL.out _ _ (by omega) t1⟩
  · have ht1 : (S.steps : Int) < t := by omega
    have H1 := hideIt (r_write (tx := tx) hR hW hT (by omega) htx hF ht1)
    have H2 := hideIt (fun X (hX : ReadyAt n0 w0 fb (B + 1) pl g t k n (S.fresh q tx) X) => s_sync hX hW hT (by omega) hc)
    clear hc hR hW hr hu hst hF htx hroom ht1
    go_enter Tryz.func26, Tryz.ntmps26
    go_wp2_with (first | (go_at_call 23; refine H1.out.mono ?_; rintro e w1 ⟨rfl, t1⟩) | (go_at_call 58; refine (H2.out _ t1).mono ?_; rintro e w2 ⟨rfl, t2⟩))
    go_ret
    exact .inr ⟨rfl, HFAL.out _ _ (by omega) t2⟩
  · have ht1 : (S.steps : Int) < t := by omega
    have H1 := hideIt (r_write (tx := tx) hR hW hT (by omega) htx hF ht1)
    have H2 := hideIt (fun X (hX : ReadyAt n0 w0 fb (B + 1) pl g t k n (S.fresh q tx) X) => r_sync hX hW hT (by omega) (by omega))
    have H3 := hideIt (fun X (hX : ReadyAt n0 w0 fb (B + 1 + 1) pl g t k n (syT S q tx) X) => s_move hX hW hT (by omega) hc)
    clear hc hR hW hr hu hst hF htx hroom ht1
    go_enter Tryz.func26, Tryz.ntmps26
    go_wp2_with (first | (go_at_call 23; refine H1.out.mono ?_; rintro e w1 ⟨rfl, t1⟩) | (go_at_call 58; refine (H2.out _ t1).mono ?_; rintro e w2 ⟨rfl, t2⟩) | (go_at_call 59; refine (H3.out _ t2).mono ?_; rintro e w3 ⟨rfl, t3⟩))
    go_ret
    exact .inr ⟨rfl, HFAL.out _ _ (by omega) t3⟩
  · have ht1 : (S.steps : Int) < t := by omega
    have H1 := hideIt (r_write (tx := tx) hR hW hT (by omega) htx hF ht1)
    have H2 := hideIt (fun X (hX : ReadyAt n0 w0 fb (B + 1) pl g t k n (S.fresh q tx) X) => r_sync hX hW hT (by omega) (by omega))
    have H3 := hideIt (fun X (hX : ReadyAt n0 w0 fb (B + 1 + 1) pl g t k n (syT S q tx) X) => r_move hX hW hT (by omega) (by omega))
    have H4 := hideIt (fun u X (hX : ReadyAt n0 w0 fb (B + 1 + 1 + 1) pl g t k n (mvT S q p tx u) X) => s_dir hX hW hT (by omega) hc)
    clear hc hR hW hr hu hst hF htx hroom ht1
    go_enter Tryz.func26, Tryz.ntmps26
    go_wp2_with (first | (go_at_call 23; refine H1.out.mono ?_; rintro e w1 ⟨rfl, t1⟩) | (go_at_call 58; refine (H2.out _ t1).mono ?_; rintro e w2 ⟨rfl, t2⟩) | (go_at_call 59; refine (H3.out _ t2).mono ?_; rintro e w3 ⟨rfl, u, hu, t3⟩) | (go_at_call 60; refine (H4.out _ _ t3).mono ?_; rintro e w4 ⟨rfl, t4⟩))
    go_ret
    exact .inr ⟨rfl, HFAL.out _ _ (by omega) t4⟩
  · have ht1 : (S.steps : Int) < t := by omega
    have H1 := hideIt (r_write (tx := tx) hR hW hT (by omega) htx hF ht1)
    have H2 := hideIt (fun X (hX : ReadyAt n0 w0 fb (B + 1) pl g t k n (S.fresh q tx) X) => r_sync hX hW hT (by omega) (by omega))
    have H3 := hideIt (fun X (hX : ReadyAt n0 w0 fb (B + 1 + 1) pl g t k n (syT S q tx) X) => r_move hX hW hT (by omega) (by omega))
    have H4 := hideIt (fun u X (hX : ReadyAt n0 w0 fb (B + 1 + 1 + 1) pl g t k n (mvT S q p tx u) X) => r_dir hX (by omega) hc)
    have HC := hideIt hc
    clear hc hR hW hr hu hst hF htx hroom ht1
    go_enter Tryz.func26, Tryz.ntmps26
    go_wp2_with (first | (go_at_call 23; refine H1.out.mono ?_; rintro e w1 ⟨rfl, t1⟩) | (go_at_call 58; refine (H2.out _ t1).mono ?_; rintro e w2 ⟨rfl, t2⟩) | (go_at_call 59; refine (H3.out _ t2).mono ?_; rintro e w3 ⟨rfl, u, hu, t3⟩) | (go_at_call 60; refine (H4.out _ _ t3).mono ?_; rintro e w4 ⟨rfl, t4⟩))
    go_ret
    exact .inl ⟨rfl, HEND.out _ HC.out ⟨u, hu, t4⟩⟩
end
end Go.Proofs.YtbpjdphflkncjaaGreatDoor.Kf
namespace Go.Proofs.YtbpjdphflkncjaaGreatDoor.Kf
open Vc Go.RowKit Go.Shelf
/-- A new place; one with power and a picture of its own. -/
def FreshAt (n0 : Nat) (w0 : World) (fb room : Nat) (w : World) : Prop := Kq.Okn n0 w ∧ n0 ≤ fb ∧ NewAt w fb room ∧ room ≤ 1000000000000000 ∧ Below n0 w0 w
def AliveAt (n0 : Nat) (w0 : World) (fb B : Nat) (pl : Value) (S : Fs) (w : World) : Prop := ∃ (A : Nat → Prop) (b : Nat), b ≤ B ∧ Kq.Okn n0 w ∧ Rep pl n0 A b w fb S ∧ Below n0 w0 w
section
variable {n0 : Nat} {w0 w w' : World} {fb B B' b b' g ga c room U : Nat} {A : Nat → Prop} {pl : Value} {S S' : Fs} {Q Q' : Fs → Prop} {t k n : Int} {p q tx : ByteArray} {o : Option ByteArray}
theorem quiet0 : Quiet Kq.P0 := ⟨none, 0, rfl⟩
theorem AliveAt.all (h : AliveAt n0 w0 fb B pl S w) (hq : Quiet pl) (hQ : Q S) : Alive n0 w0 fb B Q w := by
  obtain ⟨A, b, h1, h2, h3, h4⟩ := h
  exact ⟨pl, A, b, S, hq, h1, h2, h3, hQ, h4⟩
theorem Alive.one (h : Alive n0 w0 fb B Q w) : ∃ pl S, Quiet pl ∧ Q S ∧ AliveAt n0 w0 fb B pl S w := by
  obtain ⟨pl, A, b, S, h1, h2, h3, h4, h5, h6⟩ := h
  exact ⟨pl, S, h1, h5, A, b, h2, h3, h4, h6⟩
theorem AliveAt.below (h : AliveAt n0 w0 fb B pl S w) (hb : Below w.heap.size w w') : AliveAt n0 w0 fb B pl S w' := by
  obtain ⟨A, b, h1, h2, h3, h4⟩ := h
  have hb' := hb.mono h2.nw
  exact ⟨A, b, h1, h2.step hb', h3.keep (Kept.of_below hb), h4.trans hb'⟩
theorem AliveAt.mono (h : AliveAt n0 w0 fb B pl S w) (hB : B ≤ B') : AliveAt n0 w0 fb B' pl S w := by
  obtain ⟨A, b, h1, h2, h3, h4⟩ := h
  exact ⟨A, b, by omega, h2, h3, h4⟩
theorem aliveAt_of (hok : Kq.Okn n0 w) (hlo : ∀ g, A g → n0 ≤ g) (hb : Below n0 w0 w) (hr : RepTo pl n0 A b w fb S w') (hB : b ≤ B) : AliveAt n0 w0 fb B pl S w' := by
  obtain ⟨A2, k1, k2, k3⟩ := hr
  have hbn := k3.below hok.nw hlo
  exact ⟨A2, b, hB, hok.step hbn, k2, hb.trans hbn⟩
/-- A cell below what the place lies in is set. -/
theorem AliveAt.set (h : AliveAt n0 w0 fb B pl S w) (hz : 1 < g) (hg : g < n0) (i : Nat) (u : Value) : AliveAt n0 (w.setCell ⟨g, i, none⟩ u) fb B pl S (w.setCell ⟨g, i, none⟩ u) := by
  obtain ⟨A, b, h1, h2, h3, h4⟩ := h
  have hnw := h2.nw
  have ho : Kq.Okn g w := ⟨h2.kat, h2.max, hz, by omega⟩
  have hb : Below g w (w.setCell ⟨g, i, none⟩ u) := (Below.refl g w).setCell (p := ⟨g, i, none⟩) (Nat.le_refl _) _
  have ho' := ho.step hb
  have hsz : (w.setCell ⟨g, i, none⟩ u).heap.size = w.heap.size := by simp [World.setCell]
  refine ⟨A, b, h1, ⟨ho'.kat, ho'.max, h2.z0, by rw [hsz]; exact hnw⟩, ?_, Below.refl _ _⟩
  refine h3.stay (by rw [hsz]; exact Nat.le_refl _) ho'.max (fun j x hx ha => ?_)
  have hj := h3.lo j ha
  rw [heap_setCell_other w ⟨g, i, none⟩ _ _ (by first | omega | (simp; omega))]
  exact hx
theorem f_write (h : FreshAt n0 w0 fb room w) (hT : Two p q) (htx : tx.size ≤ 100000000) (hroom : tx.size ≤ room) : Calls Tryz.prog 23 #[.pointer (some ⟨fb, 0, none⟩), .string q, .string tx] w fun e w' => e = .returned (.int .i64 0) ∧ AliveAt n0 w0 fb 1 Kq.P0 ((noFs room).fresh q tx) w' := by
  obtain ⟨h1, h2, h3, h4, h5⟩ := h
  refine (write_fresh h3 h1.max h4 h1.zm h2 q tx (by have := hT.sq; omega) htx hT.pq (by rw [hT.dq]) hroom).mono fun e w' ⟨he, hr⟩ => ⟨he, aliveAt_of h1 (fun g hg => by rw [hg]; exact h2) h5 hr (Nat.le_refl _)⟩
theorem a_sync (h : AliveAt n0 w0 fb B pl (S.fresh q tx) w) (hq : Quiet pl) (hW : Wh p q S o) (hT : Two p q) (hB : B < 880) : Calls Tryz.prog 58 #[.pointer (some ⟨fb, 0, none⟩), .string q] w fun e w' => e = .returned (.int .i64 0) ∧ AliveAt n0 w0 fb (B + 1) pl (syT S q tx) w' := by
  obtain ⟨A, b, h3, h4, h5, h6⟩ := h
  have e0 := sy_e hW hT tx
  refine (sync_rep h5 (by omega) (hq.calm _ _) q (by have := hT.sq; omega)).mono fun e w' ⟨he, hr⟩ => ?_
  rw [e0] at he
  rcases hr with ⟨h0, _⟩ | ⟨_, S', ⟨x, hx, _, hS'⟩, hR⟩
  · exact absurd e0 h0
  · have hn : (S.fresh q tx).now q = some (some S.came) := by rw [fr_now hW hT]; simp
    rw [hn] at hx
    injection hx with hx
    injection hx with hx
    subst hx
    have e1 : (S.fresh q tx).files S.came = ⟨tx, ⟨#[]⟩⟩ := by
      rw [(Kq.fresh_all S q tx).2.2.1]
      simp [updF]
    rw [e1] at hS'
    rw [hS'] at hR
    exact ⟨he, aliveAt_of h4 h5.lo h6 hR (by omega)⟩
theorem a_move (h : AliveAt n0 w0 fb B pl (syT S q tx) w) (hq : Quiet pl) (hW : Wh p q S o) (hT : Two p q) (hB : B < 880) : Calls Tryz.prog 59 #[.pointer (some ⟨fb, 0, none⟩), .string q, .string p] w fun e w' => e = .returned (.int .i64 0) ∧ ∃ u, u ≤ S.used + (tx.size : Int) ∧ AliveAt n0 w0 fb (B + 1) pl (mvT S q p tx u) w' := by
  obtain ⟨A, b, h3, h4, h5, h6⟩ := h
  have e0 := rn_e hW hT tx
  refine (rename_rep h5 (by omega) (hq.calm _ _) q p (by have := hT.sq; omega) (by have := hT.sp; omega)).mono fun e w' ⟨he, hr⟩ => ?_
  rw [e0] at he
  rcases hr with ⟨h0, _⟩ | ⟨_, S', ⟨u, hu, hS'⟩, hR⟩
  · exact absurd e0 h0
  · rw [sy_pv hW hT] at hS'
    rw [hS'] at hR
    exact ⟨he, u, hu, aliveAt_of h4 h5.lo h6 hR (by omega)⟩
theorem a_root (h : AliveAt n0 w0 fb B pl S w) (hq : Quiet pl) (hB : B < 880) : Calls Tryz.prog 60 #[.pointer (some ⟨fb, 0, none⟩), .string ⟨#[]⟩] w fun e w' => e = .returned (.int .i64 0) ∧ AliveAt n0 w0 fb (B + 1) pl (S.syncDir ⟨#[]⟩) w' := by
  obtain ⟨A, b, h3, h4, h5, h6⟩ := h
  refine (syncDir_rep h5 (by omega) (hq.calm _ _) ⟨#[]⟩ (by decide)).mono fun e w' ⟨he, hr⟩ => ?_
  rw [Kq.nf_root] at he
  rcases hr with ⟨h0, _⟩ | ⟨_, S', hS', hR⟩
  · exact absurd Kq.nf_root h0
  · rw [hS'] at hR
    exact ⟨he, aliveAt_of h4 h5.lo h6 hR (by omega)⟩
set_option maxHeartbeats 1600000 in
set_option maxRecDepth 100000 in
/-- Lay at a new place. -/
theorem lay_fresh (h : FreshAt n0 w0 fb room w) (hT : Two p q) (htx : tx.size ≤ 100000000) (hroom : tx.size ≤ room) :
    Calls Tryz.prog 26 #[.pointer (some ⟨fb, 0, none⟩), .string ⟨#[]⟩, .string q, .string p, .string tx] w fun e w' => e = .returned (.int .i64 0) ∧ ∃ S, Wh p q S (some tx) ∧ S.room = room ∧ S.used ≤ (tx.size : Int) ∧ S.steps = 4 ∧ AliveAt n0 w0 fb 4 Kq.P0 S w' := by
  have hW : Wh p q (noFs room) none := wh_no room
  have HEND : Hid (∀ X, (∃ u, u ≤ (noFs room).used + (tx.size : Int) ∧ AliveAt n0 w0 fb (1 + 1 + 1 + 1) Kq.P0 ((mvT (noFs room) q p tx u).syncDir ⟨#[]⟩) X) → ∃ S, Wh p q S (some tx) ∧ S.room = room ∧ S.used ≤ (tx.size : Int) ∧ S.steps = 4 ∧ AliveAt n0 w0 fb 4 Kq.P0 S X) := hideIt (fun X ⟨u, hu2, hX⟩ => ⟨_, lay_wh hW hT tx u, by rw [(dir_rest _ _).2.1, (mvT_rest (noFs room) q p tx u).2.1]; rfl, by rw [(dir_rest _ _).2.2, (mvT_rest (noFs room) q p tx u).2.2]; have : (noFs room).used = 0 := rfl; omega, by rw [(dir_rest _ _).1, (mvT_rest (noFs room) q p tx u).1]; rfl, hX⟩)
  have H1 := hideIt (f_write h hT htx hroom)
  have H2 := hideIt (fun X (hX : AliveAt n0 w0 fb 1 Kq.P0 ((noFs room).fresh q tx) X) => a_sync hX quiet0 hW hT (by omega))
  have H3 := hideIt (fun X (hX : AliveAt n0 w0 fb (1 + 1) Kq.P0 (syT (noFs room) q tx) X) => a_move hX quiet0 hW hT (by omega))
  have H4 := hideIt (fun u X (hX : AliveAt n0 w0 fb (1 + 1 + 1) Kq.P0 (mvT (noFs room) q p tx u) X) => a_root hX quiet0 (by omega))
  clear h hW htx hroom
  go_enter Tryz.func26, Tryz.ntmps26
  go_wp2_with (first
    | (go_at_call 23; refine H1.out.mono ?_; rintro e w1 ⟨rfl, t1⟩)
    | (go_at_call 58; refine (H2.out _ t1).mono ?_; rintro e w2 ⟨rfl, t2⟩)
    | (go_at_call 59; refine (H3.out _ t2).mono ?_; rintro e w3 ⟨rfl, u, hu, t3⟩)
    | (go_at_call 60; refine (H4.out _ _ t3).mono ?_; rintro e w4 ⟨rfl, t4⟩))
  go_ret
  exact ⟨rfl, HEND.out _ ⟨u, hu, t4⟩⟩
theorem a_steps (h : AliveAt n0 w0 fb B pl S w) : Calls Tryz.prog 20 #[.pointer (some ⟨fb, 0, none⟩)] w fun e w' => e = .returned (.int .i64 (S.steps : Int)) ∧ w' = w := by
  obtain ⟨A, b, h1, h2, h3, h4⟩ := h
  obtain ⟨b1, b2, b3, done, n1, n2, n3, D1, D2, D3, F, e1, e2, e3, hS, hL⟩ := h3.laid
  exact steps_at hS.fs
/-- A fall is planned. -/
theorem a_plan (h : AliveAt n0 w0 fb B pl S w) (hg : w.heap[ga]? = some (.cells #[.int .i64 t, .int .u64 k, .int .i64 n] 25 (0, 0))) : Calls Tryz.prog 21 #[.pointer (some ⟨fb, 0, none⟩), .slice (some ⟨ga, 0, none⟩) 1 c] w fun e w' => e = .returned (.tuple #[]) ∧ ∃ pl' g, ReadyAt n0 w0 fb B pl' g t k n S w' := by
  obtain ⟨A, b, h1, h2, h3, h4⟩ := h
  obtain ⟨b1, b2, b3, done, n1, n2, n3, D1, D2, D3, F, e1, e2, e3, hS, hL⟩ := h3.laid
  have hfs := hS.fs
  have hlt := Vc.block_lt hfs
  refine (plan_gen (n := 1) hfs (by omega) (fun v w1 => ∃ g, w.heap.size ≤ g ∧ PlanAt w1 v g t k n) ((clone_one hg).mono fun e w' ⟨v, g, he, h1, h2, h3⟩ => ?_)).mono fun e w' ⟨he, v, w1, ⟨g, g1, g2⟩, hk, hw, _⟩ => ⟨he, ?_⟩
  · have h2' := h2
    obtain ⟨c', cur, rfl, _⟩ := h2'
    exact ⟨_, c', he, ⟨g, h1, h2⟩, h3⟩
  · have hr1 : Replan w1 w' fb pl v := ⟨by rw [hw]; exact Kept.set fb 8 v, fun nv sv dv uv came used room steps dead h' => by
      rw [hw]
      unfold FsAt
      rw [heap_setCell_same w1 fb 8 _ 85 _ h']
      rfl⟩
    have hR1 := h3.keep hk
    have hgl := plan_lt g2
    have hb1 : Below n0 w w1 := (Kq.kept_bel hk).mono h2.nw
    obtain ⟨A2, k1, k2, k3⟩ := hR1.planned hr1
    have hbn := k3.below (Nat.le_trans h2.nw hk.size) h3.lo
    refine ⟨v, g, A2, b, ?_, fun ha => ?_, h1, (h2.step hb1).step hbn, k2, (h4.trans hb1).trans hbn⟩
    · obtain ⟨c', cur, e1, h3, h4, h5, h6⟩ := g2
      refine ⟨c', cur, e1, h3, h4, ?_, h6⟩
      rw [hw]
      exact (Kept.set fb 8 v).fs h5 (by simp; omega)
    · rcases k1 g ha with e | e
      · have := h3.inA g e
        omega
      · omega
/-- None is planned any more. -/
theorem r_none (h : Ready n0 w0 fb B Q t k n w) : Calls Tryz.prog 21 #[.pointer (some ⟨fb, 0, none⟩), .slice none 0 0] w fun e w' => e = .returned (.tuple #[]) ∧ Alive n0 w0 fb B Q w' := by
  obtain ⟨pl, g, S, hQ, A, b, _, _, h2, h3, h4, h5⟩ := h
  obtain ⟨b1, b2, b3, done, n1, n2, n3, D1, D2, D3, F, e1, e2, e3, hS, hL⟩ := h4.laid
  exact (plan_none hS.fs).mono fun e w' ⟨he, hr⟩ => ⟨he, alive_of h3 h4.lo h5 quiet0 (h4.planned hr) h2 hQ⟩
theorem d_none (h : Fallen n0 w0 fb B Q w) : Calls Tryz.prog 21 #[.pointer (some ⟨fb, 0, none⟩), .slice none 0 0] w fun e w' => e = .returned (.tuple #[]) ∧ Fallen n0 w0 fb B Q w' := by
  obtain ⟨pl, A, b, S, _, h2, h3, h4, hQ, h5⟩ := h
  obtain ⟨nb, b2, b3, n, D, F, hn, hfs, r⟩ := h4.laid
  exact (plan_none hfs).mono fun e w' ⟨he, hr⟩ => ⟨he, fallen_of h3 h4.lo h5 quiet0 (h4.planned hr) h2 hQ⟩
/-- A fall between two calls; where there is no power, none. -/
theorem a_crash (h : Alive n0 w0 fb B Q w) (hB : B < 890) (k n : Int) (hQ : ∀ S S', Q S → Fell S S' k → Q' S') : Calls Tryz.prog 16 #[.pointer (some ⟨fb, 0, none⟩), .int .u64 k, .int .i64 n] w fun e w' => e = .returned (.tuple #[]) ∧ Fallen n0 w0 fb (B + 1) Q' w' := by
  obtain ⟨pl, A, b, S, hq, h2, h3, h4, hQS, h5⟩ := h
  exact (crash_rep h4 (by omega) k n).mono fun e w' ⟨he, S', hf, hr⟩ => ⟨he, fallen_of h3 h4.lo h5 hq hr (by omega) (hQ S S' hQS hf)⟩
theorem d_crash (h : Fallen n0 w0 fb B Q w) (k n : Int) : Calls Tryz.prog 16 #[.pointer (some ⟨fb, 0, none⟩), .int .u64 k, .int .i64 n] w fun e w' => e = .returned (.tuple #[]) ∧ Fallen n0 w0 fb B Q w' := by
  obtain ⟨pl, A, b, S, hq, h2, h3, h4, hQS, h5⟩ := h
  obtain ⟨nb, b2, b3, m, D, F, hn, hfs, r⟩ := h4.laid
  exact (crash_off hfs k n).mono fun e w' ⟨he, hk⟩ => ⟨he, fallen_of h3 h4.lo h5 hq (h4.planned ⟨hk.sub (by simp), fun nv sv dv uv came used room steps dead h' => hk.fs h' (by simp)⟩) h2 hQS⟩
theorem d_up (h : Fallen n0 w0 fb B Q w) : Calls Tryz.prog 17 #[.pointer (some ⟨fb, 0, none⟩)] w fun e w' => e = .returned (.bool true) ∧ Alive n0 w0 fb B Q w' := by
  obtain ⟨pl, A, b, S, hq, h2, h3, h4, hQS, h5⟩ := h
  exact (up_rep h4).mono fun e w' ⟨he, hr⟩ => ⟨he, alive_of h3 h4.lo h5 hq hr h2 hQS⟩
/-- What the path reads. -/
theorem a_read (h : AliveAt n0 w0 fb B pl S w) (hq : Quiet pl) (hS : Stl p q S o) (hT : Two p q) : Calls Tryz.prog 13 #[.pointer (some ⟨fb, 0, none⟩), .string p] w fun e w' => e = .returned (Kq.readV o) ∧ AliveAt n0 w0 fb B pl S w' := by
  have h0 := h
  obtain ⟨A, b, h1, h2, h3, h4⟩ := h
  refine (read_rep h3 (hq.calm _ _) p (by have := hT.sp; omega)).mono fun e w' ⟨hk, hr⟩ => ⟨?_, h0.below (Kq.kept_bel hk)⟩
  rcases hS.file with ⟨e1, e2⟩ | ⟨s, x, e1, e2, e3, e4⟩
  · have e5 : S.syE p = 2 := by
      unfold Fs.syE
      rw [if_pos hT.pp, e2]
      rfl
    rcases hr with ⟨_, he⟩ | ⟨h0, _⟩
    · rw [he, e5, e1]; rfl
    · rw [e5] at h0; cases h0
  · have e5 : S.syE p = 0 := by
      unfold Fs.syE pvN
      rw [if_pos hT.pp, e3]
      rfl
    rcases hr with ⟨h0, _⟩ | ⟨_, y, hy, _, he⟩
    · exact absurd e5 h0
    · rw [e3] at hy
      injection hy with hy
      injection hy with hy
      subst hy
      rw [he, e4, e1]
      rfl
theorem a_remove (h : AliveAt n0 w0 fb B pl S w) (hq : Quiet pl) (hB : B < 880) (r : ByteArray) (hr : pathL r.data.toList = true) (hs : r.size ≤ 1000) (hd : isDir S.now r = false) (h0 : S.now r ≠ none) : Calls Tryz.prog 61 #[.pointer (some ⟨fb, 0, none⟩), .string r] w fun e w' => e = .returned (.int .i64 0) ∧ ∃ u, u ≤ S.used ∧ AliveAt n0 w0 fb (B + 1) pl (Kq.setU (S.enact ⟨2, r, ⟨#[]⟩, pvN S.now r⟩) u) w' := by
  obtain ⟨A, b, h1, h2, h3, h4⟩ := h
  have e2 : S.rmE r = 0 := by
    unfold Fs.rmE
    rw [if_pos hr, if_pos (Option.isSome_iff_ne_none.2 h0), hd]
    rfl
  refine (remove_rep h3 (by omega) (hq.calm _ _) r (by omega)).mono fun e w' ⟨he, hr⟩ => ?_
  rw [e2] at he
  rcases hr with ⟨h0, _⟩ | ⟨_, S', ⟨u, hu, hS'⟩, hR⟩
  · exact absurd e2 h0
  · rw [hS'] at hR
    exact ⟨he, u, hu, aliveAt_of h2 h3.lo h4 hR (by omega)⟩
theorem a_remove_none (h : AliveAt n0 w0 fb B pl S w) (hq : Quiet pl) (hB : B < 880) (r : ByteArray) (hr : pathL r.data.toList = true) (hs : r.size ≤ 1000) (h0 : S.now r = none) : Calls Tryz.prog 61 #[.pointer (some ⟨fb, 0, none⟩), .string r] w fun e w' => e = .returned (.int .i64 2) ∧ AliveAt n0 w0 fb B pl S w' := by
  have hh := h
  obtain ⟨A, b, h1, h2, h3, h4⟩ := h
  have e2 : S.rmE r = 2 := by
    unfold Fs.rmE
    rw [if_pos hr, h0]
    rfl
  refine (remove_rep h3 (by omega) (hq.calm _ _) r (by omega)).mono fun e w' ⟨he, hr⟩ => ?_
  rw [e2] at he
  rcases hr with ⟨_, hk⟩ | ⟨h0, _⟩
  · exact ⟨he, hh.below (Kq.kept_bel hk)⟩
  · rw [e2] at h0; cases h0
set_option maxHeartbeats 1600000 in
set_option maxRecDepth 100000 in
theorem clear_some (h : AliveAt n0 w0 fb B pl S w) (hq : Quiet pl) (hB : B < 870) (r : ByteArray) (hr : pathL r.data.toList = true) (hs : r.size ≤ 1000) (hd : isDir S.now r = false) (h0 : S.now r ≠ none) : Calls Tryz.prog 27 #[.pointer (some ⟨fb, 0, none⟩), .string ⟨#[]⟩, .string r] w fun e w' => e = .returned (.int .i64 0) ∧ ∃ u, u ≤ S.used ∧ AliveAt n0 w0 fb (B + 2) pl (rmT S r u) w' := by
  have H1 := hideIt (a_remove h hq (by omega) r hr hs hd h0)
  have H2 := hideIt (fun u X (hX : AliveAt n0 w0 fb (B + 1) pl (Kq.setU (S.enact ⟨2, r, ⟨#[]⟩, pvN S.now r⟩) u) X) => a_root hX hq (by omega))
  clear h hq hB hr hs hd h0
  go_enter Tryz.func27, Tryz.ntmps27
  go_wp2_with (first
    | (go_at_call 61; refine H1.out.mono ?_; rintro e w1 ⟨rfl, u, hu, t1⟩)
    | (go_at_call 60; refine (H2.out _ _ t1).mono ?_; rintro e w2 ⟨rfl, t2⟩))
  go_ret
  exact ⟨rfl, u, hu, t2⟩
set_option maxHeartbeats 1600000 in
set_option maxRecDepth 100000 in
theorem clear_gone (h : AliveAt n0 w0 fb B pl S w) (hq : Quiet pl) (hB : B < 870) (r : ByteArray) (hr : pathL r.data.toList = true) (hs : r.size ≤ 1000) (h0 : S.now r = none) : Calls Tryz.prog 27 #[.pointer (some ⟨fb, 0, none⟩), .string ⟨#[]⟩, .string r] w fun e w' => e = .returned (.int .i64 0) ∧ AliveAt n0 w0 fb B pl S w' := by
  have H1 := hideIt (a_remove_none h hq (by omega) r hr hs h0)
  clear h hq hB hr hs h0
  go_enter Tryz.func27, Tryz.ntmps27
  go_wp2_with (first
    | (go_at_call 61; refine H1.out.mono ?_; rintro e w1 ⟨rfl, t1⟩))
  go_ret
  exact ⟨rfl, t1⟩
end
end Go.Proofs.YtbpjdphflkncjaaGreatDoor.Kf
namespace Go.Proofs.YtbpjdphflkncjaaGreatDoor.Kf
open Vc Go.RowKit Go.Shelf
def ownP : ByteArray := ⟨#[111, 119, 110]⟩
def byP : ByteArray := ⟨#[98, 121]⟩
theorem two_own : Two ownP byP := ⟨by decide +kernel, by decide +kernel, by decide +kernel, by decide +kernel, (fun e => by have := congrArg ByteArray.size e; cases this), by decide, by decide⟩
theorem below_drew (w : World) : Below w.heap.size w w.drew := ⟨rfl, rfl, rfl, Nat.le_refl _, fun _ _ => rfl⟩
section
variable {n0 : Nat} {w0 w w' : World} {fb B g : Nat} {pl : Value} {S : Fs} {Q : Fs → Prop} {x : Obj} {t k n : Int}
theorem AliveAt.blk (h : AliveAt n0 w0 fb B pl S w) (hg : g < n0) (hx : w0.heap[g]? = some x) : w.heap[g]? = some x := by
  obtain ⟨_, _, _, _, _, h4⟩ := h
  exact (h4.block _ hg).trans hx
theorem AliveAt.bel (h : AliveAt n0 w0 fb B pl S w) : Below n0 w0 w := by
  obtain ⟨_, _, _, _, _, h4⟩ := h
  exact h4
theorem Fallen.blk (h : Fallen n0 w0 fb B Q w) (hg : g < n0) (hx : w0.heap[g]? = some x) : w.heap[g]? = some x := by
  obtain ⟨_, _, _, _, _, _, _, _, _, h4⟩ := h
  exact (h4.block _ hg).trans hx
theorem Alive.blk (h : Alive n0 w0 fb B Q w) (hg : g < n0) (hx : w0.heap[g]? = some x) : w.heap[g]? = some x := by
  obtain ⟨_, _, _, _, _, _, _, _, _, h4⟩ := h
  exact (h4.block _ hg).trans hx
theorem AliveAt.here (h : AliveAt n0 w0 fb B pl S w) : AliveAt n0 w fb B pl S w := by
  obtain ⟨A, b, h1, h2, h3, _⟩ := h
  exact ⟨A, b, h1, h2, h3, Below.refl _ _⟩
theorem set_at {W : World} {z : Int} {u v : Value} {T : TypeId} (h : AliveAt n0 w0 fb B pl S w) (hz : 1 < g) (hg : g < n0) (hx : w.heap[g]? = some (.cells #[.int .i64 z, u, v] T (0, 0))) (hb : Below g W w) (z' : Int) :
    AliveAt n0 (w.setCell ⟨g, 0, none⟩ (.int .i64 z')) fb B pl S (w.setCell ⟨g, 0, none⟩ (.int .i64 z')) ∧ (w.setCell ⟨g, 0, none⟩ (.int .i64 z')).heap[g]? = some (.cells #[.int .i64 z', u, v] T (0, 0)) ∧ Below g W (w.setCell ⟨g, 0, none⟩ (.int .i64 z')) := by
  refine ⟨h.set hz hg 0 _, ?_, hb.setCell (p := ⟨g, 0, none⟩) (Nat.le_refl _) _⟩
  rw [heap_setCell_same w g 0 _ T _ hx]
  rfl
end
def cutTo (s : ByteArray) : ByteArray := if 200 < s.size then s.extract 0 200 else s
theorem cutTo_le (s : ByteArray) : (cutTo s).size ≤ 200 := by
  unfold cutTo
  split
  · rw [ByteArray.size_extract]; omega
  · omega
theorem cutTo_is (s : ByteArray) : (200 < s.size ∧ s.extract 0 200 = cutTo s) ∨ (¬ 200 < s.size ∧ s = cutTo s) := by
  unfold cutTo
  by_cases h : 200 < s.size
  · rw [if_pos h]; exact .inl ⟨h, rfl⟩
  · rw [if_neg h]; exact .inr ⟨h, rfl⟩
set_option maxHeartbeats 6400000 in
set_option maxRecDepth 100000 in
theorem lays_law (a b : ByteArray) (fa fk ft : Int) (W : World) (h0 : Kq.Law0 W) (ha : a.size ≤ 9223372036854775807) (hb : b.size ≤ 9223372036854775807) :
    Calls Tryz.prog 6 #[.string a, .string b, .agg #[.int .i64 fa, .int .u64 fk, .int .i64 ft]] W fun e w' => e = .returned (.bool true) ∧ Below W.heap.size W w' := by
  obtain ⟨W1, hW1⟩ : ∃ X, W.alloc (.cells #[.int .i64 fa, .int .u64 fk, .int .i64 ft] 25) = X := ⟨_, rfl⟩
  have hb1 : Below W.heap.size W W1 := by rw [← hW1]; exact (Below.refl _ W).alloc (Nat.le_refl _) _
  have hs1 : W1.heap.size = W.heap.size + 1 := by rw [← hW1]; simp
  have hx1 : W1.heap[W.heap.size]? = some (.cells #[.int .i64 fa, .int .u64 fk, .int .i64 ft] 25 (0, 0)) := by rw [← hW1]; exact alloc_at rfl
  have hpos := h0.pos
  obtain ⟨xg, hxg⟩ : ∃ g, W.heap.size = g := ⟨_, rfl⟩
  rw [hxg] at hb1 hs1 hx1 hpos
  have ho1 : Kq.Okn (xg + 1) W1 := (show Kq.Okn xg W from ⟨h0.kat, h0.max, hpos, by omega⟩).step hb1 |> fun h => ⟨h.kat, h.max, by omega, by omega⟩
  obtain ⟨n0, hn0⟩ : ∃ n, xg + 1 = n := ⟨_, rfl⟩
  rw [hn0] at hs1 ho1
  obtain ⟨ta, hta⟩ : ∃ t, cutTo a = t := ⟨_, rfl⟩
  obtain ⟨tb, htb⟩ : ∃ t, cutTo b = t := ⟨_, rfl⟩
  have hza := cutTo_le a
  have hzb := cutTo_le b
  have HA := hideIt (cutTo_is a)
  have HB := hideIt (cutTo_is b)
  rw [hta] at hza HA
  rw [htb] at hzb HB
  have HP : Hid (Calls Tryz.prog 7 #[] W1 fun e w' => e = .returned (.pointer (some ⟨n0, 0, none⟩)) ∧ FreshAt n0 W1 n0 1048576 w') := hideIt ((Kq.place_new W1).mono fun e w' ⟨he, h1, h2⟩ => by
    rw [hs1] at he h1 h2
    exact ⟨he, ho1.step h2, Nat.le_refl _, h1, by decide, h2⟩)
  have HL1 : Hid (∀ X, FreshAt n0 W1 n0 1048576 X → Calls Tryz.prog 26 #[.pointer (some ⟨n0, 0, none⟩), .string ⟨#[]⟩, .string ⟨#[98, 121]⟩, .string ⟨#[111, 119, 110]⟩, .string ta] X fun e w' => e = .returned (.int .i64 0) ∧ ∃ S, (Wh ownP byP S (some ta) ∧ S.room = 1048576 ∧ S.used ≤ 200 ∧ S.steps = 4) ∧ AliveAt n0 W1 n0 4 Kq.P0 S w') := hideIt (fun X hX => (lay_fresh hX two_own (by omega) (by omega)).mono fun e w' ⟨he, S, h1, h2, h3, h4, h5⟩ => ⟨he, S, ⟨h1, h2, by omega, h4⟩, h5⟩)
  have HX1 := hideIt hx1
  have HW1 := hideIt hW1
  have HB1 := hideIt hb1
  have HG : Hid (xg < n0) := hideIt (by omega)
  have HPOS := hideIt hpos
  rw [hxg]
  clear hx1 hW1 hb1 hpos ho1 hs1 h0 hta htb
  go_enter Tryz.func6, Tryz.ntmps6
  go_upto_if 17 with fail
  go_cut [0] from 15 to 19 (fun x wx => x = .string ta ∧ wx = W1)
  case first =>
    rcases HA.out with ⟨c1, c2⟩ | ⟨c1, c2⟩
    · have d1 : decide ((200 : Int) < (a.size : Int)) = true := decide_eq_true (by omega)
      have d2 : (200 : Int) < (a.size : Int) := by omega
      have d3 : (200 : Int) ≤ (a.size : Int) := by omega
      go_wp2
      go_meet
      exact ⟨by rw [← c2], HW1.out⟩
    · have d1 : decide ((200 : Int) < (a.size : Int)) = false := decide_eq_false (by omega)
      have d2 : ¬ (200 : Int) < (a.size : Int) := by omega
      go_wp2
      go_meet
      exact ⟨by rw [← c2], HW1.out⟩
  case rest =>
  obtain ⟨rfl, rfl⟩ := hcut
  go_upto_if 22 with fail
  go_cut [1] from 20 to 24 (fun x wx => x = .string tb ∧ wx = wc)
  case first =>
    rcases HB.out with ⟨c1, c2⟩ | ⟨c1, c2⟩
    · have d1 : decide ((200 : Int) < (b.size : Int)) = true := decide_eq_true (by omega)
      have d2 : (200 : Int) < (b.size : Int) := by omega
      have d3 : (200 : Int) ≤ (b.size : Int) := by omega
      go_wp2
      go_meet
      exact ⟨by rw [← c2], rfl⟩
    · have d1 : decide ((200 : Int) < (b.size : Int)) = false := decide_eq_false (by omega)
      have d2 : ¬ (200 : Int) < (b.size : Int) := by omega
      go_wp2
      go_meet
      exact ⟨by rw [← c2], rfl⟩
  case rest =>
  obtain ⟨rfl, rfl⟩ := hcut
  clear HA HB ha hb
  go_upto_if 31 with (first
    | (go_at_call 7; refine HP.out.mono ?_; rintro e w1 ⟨rfl, t1⟩)
    | (go_at_call 26; refine (HL1.out _ t1).mono ?_; rintro e w2 ⟨rfl, S, hS, t2⟩; have p2 := t2.blk HG.out HX1.out; have x0 := Vc.cellAt (i := 0) p2 rfl; have y0 := thawAt p2 0; have T2 := hideIt t2; have P2 := hideIt p2; have HS := hideIt hS; clear t2 hS p2))
  go_cut [8] from 29 to 32 (fun x wx => x = .int .i64 0 ∧ ∃ z : Int, 0 ≤ z ∧ AliveAt n0 wx n0 4 Kq.P0 S wx ∧ wx.heap[xg]? = some (.cells #[.int .i64 z, .int .u64 fk, .int .i64 ft] 25 (0, 0)) ∧ Below xg W wx)
  case first =>
    by_cases hz : fa < 0
    · have d1 : decide (fa < 0) = true := decide_eq_true hz
      go_wp2
      go_meet
      obtain ⟨z1, z2, z3⟩ := set_at T2.out HPOS.out HG.out P2.out (HB1.out.trans (T2.out.bel.mono (by have := HG.out; omega))) 0
      exact ⟨rfl, 0, by omega, z1, z2, z3⟩
    · have d1 : decide (fa < 0) = false := decide_eq_false hz
      go_wp2
      go_meet
      exact ⟨rfl, fa, by omega, T2.out.here, P2.out, HB1.out.trans (T2.out.bel.mono (by have := HG.out; omega))⟩
  case rest =>
  obtain ⟨rfl, z, hz, h1, h2, h3⟩ := hcut
  have hd := h1.below (below_drew _)
  have p3 := hd.here.blk HG.out ((hd.blk HG.out h2))
  have x0 := Vc.cellAt (i := 0) h2 rfl
  have x1 := Vc.cellAt (i := 0) p3 rfl
  have y0 := thawAt h2 0
  have y1 := thawAt p3 0
  have HST : Hid (∀ X Y, AliveAt n0 Y n0 4 Kq.P0 S X → Calls Tryz.prog 20 #[.pointer (some ⟨n0, 0, none⟩)] X fun e w' => e = .returned (.int .i64 4) ∧ w' = X) := hideIt (fun X Y hX => by
    have := a_steps hX
    rw [HS.out.2.2.2] at this
    exact this)
  have H1 := hideIt h1
  have H2 := hideIt h2
  have H3 := hideIt h3
  have HD := hideIt hd
  clear h1 h2 h3 hd p3
  go_upto_region 9 with fail
  go_cut [8] from 33 to 39 (fun x wx => x = .int .i64 0 ∧ ∃ k6 : Int, 0 ≤ k6 ∧ k6 < 6 ∧ AliveAt n0 wx n0 4 Kq.P0 S wx ∧ wx.heap[xg]? = some (.cells #[.int .i64 (4 + k6), .int .u64 fk, .int .i64 ft] 25 (0, 0)) ∧ Below xg W wx)
  case first =>
    go_region_with (first
      | (go_at_call 20; refine (HST.out _ _ H1.out).mono ?_; rintro e w3 ⟨rfl, hw⟩; obtain rfl := hw.symm)
      | (go_at_call 20; refine (HST.out _ _ HD.out).mono ?_; rintro e w3 ⟨rfl, hw⟩; obtain rfl := hw.symm))
    all_goals go_wp2
    all_goals go_meet
    all_goals (
      obtain ⟨z1, z2, z3⟩ := set_at H1.out HPOS.out HG.out H2.out H3.out (4 + z % 6)
      have e6 : IntKind.i64.wrap (4 + z.tmod 6) = 4 + z % 6 := by
        rw [Int.tmod_eq_emod_of_nonneg hz]
        have k0 : 0 ≤ z % 6 := by omega
        have k1 : z % 6 < 6 := by omega
        rw [IntKind.wrap_i64]
        omega
      rw [e6]
      exact ⟨rfl, z % 6, by omega, by omega, (z1.below (below_drew _)).here, z2, z3.trans ⟨rfl, rfl, rfl, Nat.le_refl _, fun _ _ => rfl⟩⟩)
  case rest =>
  obtain ⟨rfl, k6, hk0, hk6, h1, h2, h3⟩ := hcut
  have c0 := Vc.cellAt (i := 0) h2 rfl
  have c1 := Vc.cellAt (i := 1) h2 rfl
  have c2 := Vc.cellAt (i := 2) h2 rfl
  have HPL : Hid (∀ X (ga c : Nat), AliveAt n0 wc n0 4 Kq.P0 S X → X.heap[ga]? = some (.cells #[.int .i64 (4 + k6), .int .u64 fk, .int .i64 ft] 25 (0, 0)) → Calls Tryz.prog 21 #[.pointer (some ⟨n0, 0, none⟩), .slice (some ⟨ga, 0, none⟩) 1 c] X fun e w' => e = .returned (.tuple #[]) ∧ Ready n0 wc n0 4 (LayQ ownP byP 1048576 200 (4 + k6) (some ta)) (4 + k6) fk ft w') := hideIt (fun X ga c hX hg => (a_plan hX hg).mono fun e w' ⟨he, pl, g, hr⟩ => ⟨he, pl, g, S, ⟨HS.out.1, HS.out.2.1, HS.out.2.2.1, by rw [HS.out.2.2.2]; omega⟩, hr⟩)
  have HL2 : Hid (∀ X, Ready n0 wc n0 4 (LayQ ownP byP 1048576 200 (4 + k6) (some ta)) (4 + k6) fk ft X → Calls Tryz.prog 26 #[.pointer (some ⟨n0, 0, none⟩), .string ⟨#[]⟩, .string ⟨#[98, 121]⟩, .string ⟨#[111, 119, 110]⟩, .string tb] X fun e w' => (e = .returned (.int .i64 0) ∧ Ready n0 wc n0 8 (LayQ ownP byP 1048576 (200 + tb.size) (4 + k6) (some tb)) (4 + k6) fk ft w') ∨ (e = .returned (.int .i64 7) ∧ Fallen n0 wc n0 8 (Either ownP byP (some ta) tb) w')) := hideIt (fun X hX => lay_ready hX two_own (by omega) (by omega) (by omega))
  have HN1 : Hid (∀ X, Ready n0 wc n0 8 (LayQ ownP byP 1048576 (200 + tb.size) (4 + k6) (some tb)) (4 + k6) fk ft X → Calls Tryz.prog 21 #[.pointer (some ⟨n0, 0, none⟩), .slice none 0 0] X fun e w' => e = .returned (.tuple #[]) ∧ Alive n0 wc n0 8 (LayQ ownP byP 1048576 (200 + tb.size) (4 + k6) (some tb)) w') := hideIt (fun X hX => r_none hX)
  have HN2 : Hid (∀ X, Fallen n0 wc n0 8 (Either ownP byP (some ta) tb) X → Calls Tryz.prog 21 #[.pointer (some ⟨n0, 0, none⟩), .slice none 0 0] X fun e w' => e = .returned (.tuple #[]) ∧ Fallen n0 wc n0 8 (Either ownP byP (some ta) tb) w') := hideIt (fun X hX => d_none hX)
  have HC1 : Hid (∀ X, Alive n0 wc n0 8 (LayQ ownP byP 1048576 (200 + tb.size) (4 + k6) (some tb)) X → Calls Tryz.prog 16 #[.pointer (some ⟨n0, 0, none⟩), .int .u64 fk, .int .i64 ft] X fun e w' => e = .returned (.tuple #[]) ∧ Fallen n0 wc n0 9 (fun S => Stl ownP byP S (some tb)) w') := hideIt (fun X hX => a_crash hX (by omega) fk ft (fun S S' hS hf => fell_stl hS.1.1 hf))
  have HC2 : Hid (∀ X, Fallen n0 wc n0 8 (Either ownP byP (some ta) tb) X → Calls Tryz.prog 16 #[.pointer (some ⟨n0, 0, none⟩), .int .u64 fk, .int .i64 ft] X fun e w' => e = .returned (.tuple #[]) ∧ Fallen n0 wc n0 9 (Either ownP byP (some ta) tb) w') := hideIt (fun X hX => (d_crash hX fk ft).mono fun e w' ⟨he, h⟩ => ⟨he, h.mono (by omega) (fun _ h => h)⟩)
  have HU1 : Hid (∀ X, Fallen n0 wc n0 9 (fun S => Stl ownP byP S (some tb)) X → Calls Tryz.prog 17 #[.pointer (some ⟨n0, 0, none⟩)] X fun e w' => e = .returned (.bool true) ∧ Alive n0 wc n0 9 (fun S => Stl ownP byP S (some tb)) w') := hideIt (fun X hX => d_up hX)
  have HU2 : Hid (∀ X, Fallen n0 wc n0 9 (Either ownP byP (some ta) tb) X → Calls Tryz.prog 17 #[.pointer (some ⟨n0, 0, none⟩)] X fun e w' => e = .returned (.bool true) ∧ (Alive n0 wc n0 9 (fun S => Stl ownP byP S (some ta)) w' ∨ Alive n0 wc n0 9 (fun S => Stl ownP byP S (some tb)) w')) := hideIt (fun X hX => (d_up hX).mono fun e w' ⟨he, h⟩ => ⟨he, by
    obtain ⟨pl, A, b, S, k1, k2, k3, k4, k5, k6⟩ := h
    rcases k5 with k5 | k5
    · exact .inl ⟨pl, A, b, S, k1, k2, k3, k4, k5, k6⟩
    · exact .inr ⟨pl, A, b, S, k1, k2, k3, k4, k5, k6⟩⟩)
  have HR1 : Hid (∀ X (s : ByteArray), Alive n0 wc n0 9 (fun S => Stl ownP byP S (some s)) X → Calls Tryz.prog 13 #[.pointer (some ⟨n0, 0, none⟩), .string ⟨#[111, 119, 110]⟩] X fun e w' => e = .returned (.tuple #[.string s, .int .i64 0]) ∧ Alive n0 wc n0 9 (fun S => Stl ownP byP S (some s)) w') := hideIt (fun X s hX => by
    obtain ⟨pl, S, hq, hS, hA⟩ := hX.one
    exact (a_read hA hq hS two_own).mono fun e w' ⟨he, h⟩ => ⟨he, h.all hq hS⟩)
  have HK1 : Hid (∀ X (s : ByteArray), Alive n0 wc n0 9 (fun S => Stl ownP byP S (some s)) X → Calls Tryz.prog 27 #[.pointer (some ⟨n0, 0, none⟩), .string ⟨#[]⟩, .string ⟨#[111, 119, 110]⟩] X fun e w' => e = .returned (.int .i64 0) ∧ Alive n0 wc n0 11 (fun S => Stl ownP byP S (none)) w') := hideIt (fun X s hX => by
    obtain ⟨pl, S, hq, hS, hA⟩ := hX.one
    have h0 : S.now ownP ≠ none := by
      rcases hS.file with ⟨e, _⟩ | ⟨_, x, _, _, e, _⟩
      · cases e
      · rw [e]; simp
    exact (clear_some hA hq (by omega) ownP two_own.pp two_own.sp (hS.dir two_own.pp) h0).mono fun e w' ⟨he, u, _, h⟩ => ⟨he, h.all hq (rm_p hS two_own h0 u)⟩)
  have HC3 : Hid (∀ X, Alive n0 wc n0 11 (fun S => Stl ownP byP S (none)) X → Calls Tryz.prog 16 #[.pointer (some ⟨n0, 0, none⟩), .int .u64 0, .int .i64 0] X fun e w' => e = .returned (.tuple #[]) ∧ Fallen n0 wc n0 12 (fun S => Stl ownP byP S (none)) w') := hideIt (fun X hX => a_crash hX (by omega) 0 0 (fun S S' hS hf => fell_stl hS hf))
  have HU3 : Hid (∀ X, Fallen n0 wc n0 12 (fun S => Stl ownP byP S (none)) X → Calls Tryz.prog 17 #[.pointer (some ⟨n0, 0, none⟩)] X fun e w' => e = .returned (.bool true) ∧ Alive n0 wc n0 12 (fun S => Stl ownP byP S (none)) w') := hideIt (fun X hX => d_up hX)
  have HR3 : Hid (∀ X, Alive n0 wc n0 12 (fun S => Stl ownP byP S (none)) X → Calls Tryz.prog 13 #[.pointer (some ⟨n0, 0, none⟩), .string ⟨#[111, 119, 110]⟩] X fun e w' => e = .returned (.tuple #[.string ⟨#[]⟩, .int .i64 2]) ∧ Alive n0 wc n0 12 (fun S => Stl ownP byP S (none)) w') := hideIt (fun X hX => by
    obtain ⟨pl, S, hq, hS, hA⟩ := hX.one
    exact (a_read hA hq hS two_own).mono fun e w' ⟨he, h⟩ => ⟨he, h.all hq hS⟩)
  have HAW : Hid (∀ X, Alive n0 wc n0 12 (fun S => Stl ownP byP S (none)) X → Calls Tryz.prog 8 #[] X fun e w' => e = .returned (.bool true) ∧ Alive n0 wc n0 12 (fun S => Stl ownP byP S (none)) w') := hideIt (fun X hX => by
    obtain ⟨pl, A, b, S, k1, k2, ho, k4, k5, k6⟩ := id hX
    exact (Kq.awake_any (n0 := X.heap.size) ⟨ho.kat, ho.max, by have := ho.z0; have := ho.nw; omega, Nat.le_refl _⟩).mono fun e w' ⟨he, hb⟩ => ⟨he, hX.below hb⟩)
  have HK3 : Hid (∀ X, Alive n0 wc n0 12 (fun S => Stl ownP byP S (none)) X → Calls Tryz.prog 27 #[.pointer (some ⟨n0, 0, none⟩), .string ⟨#[]⟩, .string ⟨#[111, 119, 110]⟩] X fun e w' => e = .returned (.int .i64 0) ∧ Alive n0 wc n0 12 (fun S => Stl ownP byP S (none)) w') := hideIt (fun X hX => by
    obtain ⟨pl, S, hq, hS, hA⟩ := hX.one
    have h0 : S.now ownP = none := by
      rcases hS.file with ⟨_, e⟩ | ⟨_, x, e, _⟩
      · exact e
      · cases e
    exact (clear_gone hA hq (by omega) ownP two_own.pp two_own.sp h0).mono fun e w' ⟨he, h⟩ => ⟨he, h.all hq hS⟩)
  have HEND : Hid (∀ X, Alive n0 wc n0 12 (fun S => Stl ownP byP S (none)) X → Below xg W X) := hideIt (fun X hX => by
    obtain ⟨_, _, _, _, _, _, _, _, _, hb⟩ := hX
    exact h3.trans (hb.mono (by have := HG.out; omega)))
  have H1 := hideIt h1
  have H2 := hideIt h2
  have HAB : Hid (ta = tb ∨ (decide (ta = tb) = false ∧ ¬ ta = tb)) := hideIt (by
    by_cases hab : ta = tb
    · exact .inl hab
    · exact .inr ⟨decide_eq_false hab, hab⟩)
  clear h1 h2 h3 hk0 hk6 hza hzb
  go_wp2_with (first
    | (go_at_call 8; refine (HAW.out _ n5).mono ?_; rintro e wj ⟨rfl, n6⟩)
    | (go_at_call 27; refine (HK3.out _ n6).mono ?_; rintro e wk ⟨rfl, n7⟩)
    | (go_at_call 13; refine (HR3.out _ n4).mono ?_; rintro e wi ⟨rfl, n5⟩)
    | (go_at_call 17; refine (HU3.out _ n3).mono ?_; rintro e wh ⟨rfl, n4⟩)
    | (go_at_call 16; refine (HC3.out _ n2).mono ?_; rintro e wg ⟨rfl, n3⟩)
    | (go_at_call 27; refine (HK1.out _ _ r2).mono ?_; rintro e wf ⟨rfl, n2⟩)
    | (go_at_call 13; refine (HR1.out _ _ r1).mono ?_; rintro e we ⟨rfl, r2⟩)
    | (go_at_call 13; refine (HR1.out _ _ ra).mono ?_; rintro e we ⟨rfl, r2⟩; rcases HAB.out with rfl | ⟨g1, g2⟩)
    | (go_at_call 17; refine (HU1.out _ s1).mono ?_; rintro e we ⟨rfl, r1⟩)
    | (go_at_call 17; refine (HU2.out _ s2).mono ?_; rintro e we ⟨rfl, ra | r1⟩)
    | (go_at_call 16; refine (HC1.out _ a2).mono ?_; rintro e we ⟨rfl, s1⟩)
    | (go_at_call 16; refine (HC2.out _ f2).mono ?_; rintro e we ⟨rfl, s2⟩)
    | (go_at_call 21; refine (HN1.out _ a1).mono ?_; rintro e we ⟨rfl, a2⟩; have q1 := Vc.cellAt (i := 1) (a2.blk HG.out H2.out) rfl; have q2 := Vc.cellAt (i := 2) (a2.blk HG.out H2.out) rfl)
    | (go_at_call 21; refine (HN2.out _ f1).mono ?_; rintro e we ⟨rfl, f2⟩; have q1 := Vc.cellAt (i := 1) (f2.blk HG.out H2.out) rfl; have q2 := Vc.cellAt (i := 2) (f2.blk HG.out H2.out) rfl)
    | (go_at_call 26; refine (HL2.out _ t4).mono ?_; rintro e we (⟨rfl, a1⟩ | ⟨rfl, f1⟩))
    | (go_at_call 21; refine (HPL.out _ _ _ (H1.out.below (Rf.new_below _ _)) (alloc_at rfl)).mono ?_; rintro e we ⟨rfl, t4⟩))
  all_goals go_ret
  all_goals exact ⟨rfl, HEND.out _ n7⟩
end Go.Proofs.YtbpjdphflkncjaaGreatDoor.Kf
