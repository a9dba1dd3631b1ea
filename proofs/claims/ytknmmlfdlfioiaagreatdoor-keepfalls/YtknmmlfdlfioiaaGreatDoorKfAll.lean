/- A file laid by way of another one: plain pictures; what a fall leaves of them. Lay where a fall is planned, walked: it strikes at one of the steps, or behind them. The calls at such a place: new, awake, planned, behind a fall; a name cleared. Lay where a fall is planned, walked: it strikes at one of the steps, or behind them; whatever stands beside the place. (Printed by mkga.py off Fb.) The calls at such a place: new, awake, planned, behind a fall; a name cleared. The place of the law KeepFalls: at rest, planned, struck, new or used; its calls but Lay, Save and Open. Lay and Save under a planned fall, at a place new or used. (Printed by mkgd.py.) Open behind a fall: nothing was coming, or it goes. (Printed by mkge.py off kp14's Ke.) What stands beside the place in the law KeepFalls: boxes of refs and of a fall; how it changes. The boxes of the law KeepFalls: made, set, dropped; the law's cut told of rows that lie ahead. The boxes of the law KeepFalls, step by step; its cut told of rows that lie ahead. (Printed by mkgh.py.) A row of falls as an argument, opened. Behind the inner loop of the law KeepFalls: the fall, the standing up, and what is told then. The law KeepFalls, walked whole. (Printed by mkgj.py.) -/
import Derived.Test.YtknmmlfdlfioiaaGreatDoorVcAll2
import Derived.Test.YtknmmlfdlfioiaaGreatDoorKqAll
import Derived.Deep.Strs
import Derived.Test.YtknmmlfdlfioiaaGreatDoorRfzAll
import Derived.Deep.CutBlock
namespace Go.Proofs.YtknmmlfdlfioiaaGreatDoor.Kf
open Vc Go.RowKit Go.Shelf
/-- A path, and the one by way of which its file is laid; both stand in the root. -/
structure Two (p q : ByteArray) : Prop where
  pp : pathL p.data.toList = true
  pq : pathL q.data.toList = true
  dp : dirOf p = ⟨#[]⟩
  dq : dirOf q = ⟨#[]⟩
  ne : q ≠ p
  sp : p.size ≤ 1000
  sq : q.size ≤ 1000
/-- Nothing but these two may be there; all is sure. -/
structure Stl (p q : ByteArray) (S : Fs) (o : Option ByteArray) : Prop where
  names : ∀ r, r ≠ p → r ≠ q → S.now r = none
  file : (o = none ∧ S.now p = none) ∨ ∃ s x, o = some s ∧ x < S.came ∧ S.now p = some (some x) ∧ S.files x = ⟨s, s⟩
  by' : S.now q = none ∨ ∃ x, x < S.came ∧ S.now q = some (some x)
  sure : S.sure = S.now
  acts : S.acts = []
/-- And nothing is coming. -/
def Wh (p q : ByteArray) (S : Fs) (o : Option ByteArray) : Prop := Stl p q S o ∧ S.now q = none
theorem wh_no {p q : ByteArray} (room : Nat) : Wh p q (noFs room) none := ⟨⟨fun _ _ _ => rfl, .inl ⟨rfl, rfl⟩, .inl rfl, rfl, rfl⟩, rfl⟩
section
variable {p q t : ByteArray} {S S' : Fs} {o : Option ByteArray} {u k : Int}
theorem Stl.dir (h : Stl p q S o) (hp : pathL p.data.toList = true) : isDir S.now p = false := by
  have h0 := ne_of_path hp
  have h1 : p.data.toList.isEmpty = false := by simpa using h0
  unfold isDir
  rw [h1]
  rcases h.file with ⟨_, e⟩ | ⟨s, x, _, _, e, _⟩
  · rw [e]; rfl
  · rw [e]; rfl
theorem Stl.dirq (h : Stl p q S o) (hp : pathL q.data.toList = true) : isDir S.now q = false := by
  have h0 := ne_of_path hp
  have h1 : q.data.toList.isEmpty = false := by simpa using h0
  unfold isDir
  rw [h1]
  rcases h.by' with e | ⟨x, _, e⟩
  · rw [e]; rfl
  · rw [e]; rfl
noncomputable def syT (S : Fs) (q t : ByteArray) : Fs := { S.fresh q t with files := updF (S.fresh q t).files S.came ⟨t, t⟩, steps := (S.fresh q t).steps + 1 }
noncomputable def mvT (S : Fs) (q p t : ByteArray) (u : Int) : Fs := Kq.setU ((syT S q t).enact ⟨1, q, p, some S.came⟩) u
theorem root_of {d : ByteArray} (h : dirOf d = ⟨#[]⟩) (n : Nm) : isDir n (dirOf d) = true := by rw [h]; rfl
theorem syT_all (S : Fs) (q t : ByteArray) : (syT S q t).now = (S.fresh q t).now ∧ (syT S q t).sure = (S.fresh q t).sure ∧ (syT S q t).acts = (S.fresh q t).acts ∧ (syT S q t).files = updF (S.fresh q t).files S.came ⟨t, t⟩ ∧ (syT S q t).came = (S.fresh q t).came ∧ (syT S q t).steps = S.steps + 2 := ⟨rfl, rfl, rfl, rfl, rfl, rfl⟩
theorem fresh_steps (S : Fs) (q t : ByteArray) : (S.fresh q t).steps = S.steps + 1 ∧ (S.fresh q t).room = S.room ∧ (S.fresh q t).used = S.used + (t.size : Int) := ⟨rfl, rfl, rfl⟩
theorem syT_rest (S : Fs) (q t : ByteArray) : (syT S q t).room = S.room ∧ (syT S q t).used = S.used + (t.size : Int) := ⟨rfl, rfl⟩
theorem mvT_rest (S : Fs) (q p t : ByteArray) (u : Int) : (mvT S q p t u).steps = S.steps + 3 ∧ (mvT S q p t u).room = S.room ∧ (mvT S q p t u).used = u := ⟨rfl, rfl, rfl⟩
theorem dir_rest (T : Fs) (d : ByteArray) : (T.syncDir d).steps = T.steps + 1 ∧ (T.syncDir d).room = T.room ∧ (T.syncDir d).used = T.used := ⟨rfl, rfl, rfl⟩
theorem fr_now (h : Wh p q S o) (hT : Two p q) (t : ByteArray) : (S.fresh q t).now = fun r => if r = q then some (some S.came) else S.now r := by
  rw [Kq.fresh_at, Kq.doN_comes h.2 (root_of hT.dq _)]
theorem sy_now (h : Wh p q S o) (hT : Two p q) (t : ByteArray) : (syT S q t).now = fun r => if r = q then some (some S.came) else S.now r := by
  rw [(syT_all S q t).1, fr_now h hT]
theorem sy_q (h : Wh p q S o) (hT : Two p q) (t : ByteArray) : (syT S q t).now q = some (some S.came) := by rw [sy_now h hT]; simp
theorem sy_p (h : Wh p q S o) (hT : Two p q) (t : ByteArray) : (syT S q t).now p = S.now p := by rw [sy_now h hT]; simp [Ne.symm hT.ne]
theorem sy_pv (h : Wh p q S o) (hT : Two p q) (t : ByteArray) : pvN (syT S q t).now q = some S.came := by
  unfold pvN
  rw [sy_q h hT]
theorem sy_dir (h : Wh p q S o) (hT : Two p q) (t : ByteArray) : isDir (syT S q t).now p = false := by
  have := h.1.dir hT.pp
  unfold isDir at this ⊢
  rw [sy_p h hT]
  exact this
theorem mv_at (S : Fs) (q p t : ByteArray) (u : Int) : (mvT S q p t u).now = doN (syT S q t).now ⟨1, q, p, some S.came⟩ := by
  unfold mvT
  rw [(Kq.setU_at _ _).1, (Kq.enact_at _ _).1]
theorem mv_now (h : Wh p q S o) (hT : Two p q) (t : ByteArray) (u : Int) : (mvT S q p t u).now = fun r => if r = p then some (some S.came) else if r = q then none else S.now r := by
  rw [mv_at, Kq.doN_moves (root_of hT.dp _) (sy_dir h hT t) (sy_pv h hT t)]
  funext r
  by_cases e : r = p
  · rw [if_pos e, if_pos e]
  · rw [if_neg e, if_neg e]
    by_cases e2 : r = q
    · rw [if_pos e2, if_pos e2]
    · rw [if_neg e2, if_neg e2, sy_now h hT]
      simp only [if_neg e2]
theorem in_root_q (hT : Two p q) (x : Option Nat) : inP ⟨#[]⟩ ⟨0, q, ⟨#[]⟩, x⟩ = true := by
  unfold inP inB
  rw [show dirOf (⟨0, q, ⟨#[]⟩, x⟩ : Pa).p = ⟨#[]⟩ from hT.dq]
  simp
theorem in_root_mv (hT : Two p q) (x : Option Nat) : inP ⟨#[]⟩ ⟨1, q, p, x⟩ = true := by
  unfold inP inB
  rw [show dirOf (⟨1, q, p, x⟩ : Pa).p = ⟨#[]⟩ from hT.dq]
  simp
theorem in_root_rm {r : ByteArray} (hr : dirOf r = ⟨#[]⟩) (x : Option Nat) : inP ⟨#[]⟩ ⟨2, r, ⟨#[]⟩, x⟩ = true := by
  unfold inP inB
  rw [show dirOf (⟨2, r, ⟨#[]⟩, x⟩ : Pa).p = ⟨#[]⟩ from hr]
  simp
theorem mv_acts (h : Wh p q S o) (t : ByteArray) (u : Int) : (mvT S q p t u).acts = [⟨0, q, ⟨#[]⟩, some S.came⟩, ⟨1, q, p, some S.came⟩] := by
  unfold mvT
  rw [(Kq.setU_at _ _).2.2.1, (Kq.enact_at _ _).2.2.1, (syT_all S q t).2.2.1, (Kq.fresh_all S q t).2.1, h.1.acts, List.nil_append, List.singleton_append]
theorem mv_sure (h : Wh p q S o) (t : ByteArray) (u : Int) : (mvT S q p t u).sure = S.now := by
  unfold mvT
  rw [(Kq.setU_at _ _).2.1, (Kq.enact_at _ _).2.1, (syT_all S q t).2.1, (Kq.fresh_all S q t).1, h.1.sure]
theorem mv_files (S : Fs) (q p t : ByteArray) (u : Int) : (mvT S q p t u).files = updF (updF S.files S.came ⟨t, ⟨#[]⟩⟩) S.came ⟨t, t⟩ ∧ (mvT S q p t u).came = S.came + 1 := by
  unfold mvT
  rw [(Kq.setU_at _ _).2.2.2.1, (Kq.setU_at _ _).2.2.2.2.1, (Kq.enact_at _ _).2.2.2.1, (Kq.enact_at _ _).2.2.2.2, (syT_all S q t).2.2.2.1, (syT_all S q t).2.2.2.2.1, (Kq.fresh_all S q t).2.2.1, (Kq.fresh_all S q t).2.2.2]
  exact ⟨rfl, rfl⟩
/-- All of it: the file holds the new bytes. -/
theorem lay_wh (h : Wh p q S o) (hT : Two p q) (t : ByteArray) (u : Int) : Wh p q ((mvT S q p t u).syncDir ⟨#[]⟩) (some t) := by
  obtain ⟨hn, hs, ha, hf, hc⟩ := Kq.dir_at (mvT S q p t u) ⟨#[]⟩
  obtain ⟨hf2, hc2⟩ := mv_files S q p t u
  have hs2 : ((mvT S q p t u).syncDir ⟨#[]⟩).sure = (mvT S q p t u).now := by
    rw [hs, mv_acts h, mv_sure h, mv_at, (syT_all S q t).1, Kq.fresh_at]
    simp only [List.filter_cons, in_root_q hT, in_root_mv hT, List.filter_nil, if_true, List.foldl_cons, List.foldl_nil]
  have hq : ((mvT S q p t u).syncDir ⟨#[]⟩).now q = none := by
    rw [hn, mv_now h hT]
    simp [hT.ne]
  refine ⟨⟨fun r hr hr2 => ?_, .inr ⟨t, S.came, rfl, ?_, ?_, ?_⟩, .inl hq, by rw [hs2, hn], ?_⟩, hq⟩
  · rw [hn, mv_now h hT]
    simp only [if_neg hr, if_neg hr2]
    exact h.1.names r hr hr2
  · rw [hc, hc2]
    omega
  · rw [hn, mv_now h hT]
    simp
  · rw [hf, hf2]
    simp [updF]
  · rw [ha, mv_acts h]
    simp [in_root_q hT, in_root_mv hT]
theorem sub_one {α : Type} {l : List α} {a : α} (h : l.Sublist [a]) : l = [] ∨ l = [a] := by
  cases h with
  | cons _ h => exact .inl (List.sublist_nil.1 h)
  | cons_cons _ h => exact .inr (by rw [List.sublist_nil.1 h])
theorem sub_two {α : Type} {l : List α} {a b : α} (h : l.Sublist [a, b]) : l = [] ∨ l = [a] ∨ l = [b] ∨ l = [a, b] := by
  cases h with
  | cons _ h => rcases sub_one h with e | e <;> simp [e]
  | cons_cons _ h => rcases sub_one h with e | e <;> simp [e]
/-- What a fall leaves where nothing, or the coming file's name, is kept. -/
theorem fell_old {T : Fs} {l' : List Pa} (h : Wh p q S o) (hT : Two p q) (hf : Fell T S' k) (hn : S'.now = l'.foldl doN S.now) (hl : l' = [] ∨ l' = [⟨0, q, ⟨#[]⟩, some S.came⟩]) (hc : S.came < T.came) (hfl : ∀ x, x < S.came → T.files x = S.files x) (hs : S'.sure = S'.now) : Stl p q S' o := by
  have hp : S'.now p = S.now p := by
    rcases hl with e | e
    · rw [hn, e]; rfl
    · rw [hn, e, List.foldl_cons, List.foldl_nil, Kq.doN_comes h.2 (root_of hT.dq _)]
      simp [Ne.symm hT.ne]
  have hcm := hf.came
  refine ⟨fun r hr hr2 => ?_, ?_, ?_, hs, hf.acts⟩
  · rcases hl with e | e
    · rw [hn, e]; exact h.1.names r hr hr2
    · rw [hn, e, List.foldl_cons, List.foldl_nil, Kq.doN_comes h.2 (root_of hT.dq _)]
      simp only [if_neg hr2]
      exact h.1.names r hr hr2
  · rcases h.1.file with ⟨e1, e2⟩ | ⟨s, x, e1, e2, e3, e4⟩
    · exact .inl ⟨e1, by rw [hp]; exact e2⟩
    · exact .inr ⟨s, x, e1, by rw [hcm]; omega, by rw [hp]; exact e3, by rw [hf.same x (by rw [hfl x e2, e4]), hfl x e2, e4]⟩
  · rcases hl with e | e
    · left; rw [hn, e]; exact h.2
    · right
      refine ⟨S.came, by rw [hcm]; exact hc, ?_⟩
      rw [hn, e, List.foldl_cons, List.foldl_nil, Kq.doN_comes h.2 (root_of hT.dq _)]
      simp
theorem fell0 (h : Wh p q S o) (hf : Fell S S' k) : Wh p q S' o := by
  obtain ⟨l', hl, _, h1, h2⟩ := hf.names
  rw [h.1.acts] at hl
  have e := List.sublist_nil.1 hl
  rw [e] at h1
  have hn : S'.now = S.now := by rw [h1]; exact h.1.sure
  refine ⟨⟨fun r hr hr2 => by rw [hn]; exact h.1.names r hr hr2, ?_, .inl (by rw [hn]; exact h.2), h2, hf.acts⟩, by rw [hn]; exact h.2⟩
  rcases h.1.file with ⟨e1, e2⟩ | ⟨s, x, e1, e2, e3, e4⟩
  · exact .inl ⟨e1, by rw [hn]; exact e2⟩
  · exact .inr ⟨s, x, e1, by rw [hf.came]; exact e2, by rw [hn]; exact e3, by rw [hf.same x (by rw [e4]), e4]⟩
theorem fell_stl (h : Stl p q S o) (hf : Fell S S' k) : Stl p q S' o := by
  obtain ⟨l', hl, _, h1, h2⟩ := hf.names
  rw [h.acts] at hl
  have e := List.sublist_nil.1 hl
  rw [e] at h1
  have hn : S'.now = S.now := by rw [h1]; exact h.sure
  refine ⟨fun r hr hr2 => by rw [hn]; exact h.names r hr hr2, ?_, by rw [hn, hf.came]; exact h.by', h2, hf.acts⟩
  rcases h.file with ⟨e1, e2⟩ | ⟨s, x, e1, e2, e3, e4⟩
  · exact .inl ⟨e1, by rw [hn]; exact e2⟩
  · exact .inr ⟨s, x, e1, by rw [hf.came]; exact e2, by rw [hn]; exact e3, by rw [hf.same x (by rw [e4]), e4]⟩
theorem upd_old (f : Nat → Fl) (c : Nat) (v : Fl) (x : Nat) (hx : x < c) : updF f c v x = f x := by
  unfold updF
  rw [if_neg (by omega)]
theorem fell1 (h : Wh p q S o) (hT : Two p q) (hf : Fell (S.fresh q t) S' k) : Stl p q S' o := by
  obtain ⟨l', hl, _, h1, h2⟩ := hf.names
  rw [(Kq.fresh_all S q t).2.1, h.1.acts, List.nil_append] at hl
  rw [(Kq.fresh_all S q t).1, h.1.sure] at h1
  exact fell_old h hT hf h1 (sub_one hl) (by rw [(Kq.fresh_all S q t).2.2.2]; omega) (fun x hx => by rw [(Kq.fresh_all S q t).2.2.1, upd_old _ _ _ _ hx]) h2
theorem fell2 (h : Wh p q S o) (hT : Two p q) (hf : Fell (syT S q t) S' k) : Stl p q S' o := by
  obtain ⟨l', hl, _, h1, h2⟩ := hf.names
  rw [(syT_all S q t).2.2.1, (Kq.fresh_all S q t).2.1, h.1.acts, List.nil_append] at hl
  rw [(syT_all S q t).2.1, (Kq.fresh_all S q t).1, h.1.sure] at h1
  exact fell_old h hT hf h1 (sub_one hl) (by rw [(syT_all S q t).2.2.2.2.1, (Kq.fresh_all S q t).2.2.2]; omega) (fun x hx => by rw [(syT_all S q t).2.2.2.1, (Kq.fresh_all S q t).2.2.1, upd_old _ _ _ _ hx, upd_old _ _ _ _ hx]) h2
theorem fell3 (h : Wh p q S o) (hT : Two p q) (hf : Fell (mvT S q p t u) S' k) : Stl p q S' o ∨ Stl p q S' (some t) := by
  obtain ⟨l', hl, _, h1, h2⟩ := hf.names
  obtain ⟨f1, f2⟩ := mv_files S q p t u
  rw [mv_acts h] at hl
  rw [mv_sure h] at h1
  have hold : l' = [] ∨ l' = [⟨0, q, ⟨#[]⟩, some S.came⟩] → Stl p q S' o := fun e =>
    fell_old h hT hf h1 e (by rw [f2]; omega) (fun x hx => by rw [f1, upd_old _ _ _ _ hx, upd_old _ _ _ _ hx]) h2
  have hnew : S'.now = (fun r => if r = p then some (some S.came) else if r = q then none else S.now r) → Stl p q S' (some t) := fun hn => by
    have hq : S'.now q = none := by rw [hn]; simp [hT.ne]
    refine ⟨fun r hr hr2 => ?_, .inr ⟨t, S.came, rfl, by rw [hf.came, f2]; omega, by rw [hn]; simp, ?_⟩, .inl hq, h2, hf.acts⟩
    · rw [hn]
      simp only [if_neg hr, if_neg hr2]
      exact h.1.names r hr hr2
    · have e : (mvT S q p t u).files S.came = ⟨t, t⟩ := by rw [f1]; simp [updF]
      rw [hf.same S.came (by rw [e]), e]
  rcases sub_two hl with e | e | e | e
  · exact .inl (hold (.inl e))
  · exact .inl (hold (.inr e))
  · right
    refine hnew ?_
    rw [h1, e, List.foldl_cons, List.foldl_nil]
    unfold doN
    rw [if_neg (by show ¬ (1 : Nat) = 0; omega), if_pos rfl, if_pos ⟨root_of hT.dp _, .inl (h.1.dir hT.pp)⟩]
    have hpv : pvN S.now q = none := by unfold pvN; rw [h.2]
    funext r
    simp only [hpv]
    by_cases e1 : r = p
    · simp [e1]
    · simp only [if_neg e1]
      by_cases e2 : r = q
      · rw [e2, h.2]; simp
      · simp [e2]
  · right
    refine hnew ?_
    rw [h1, e, List.foldl_cons, List.foldl_cons, List.foldl_nil, ← Kq.fresh_at S q t, ← (syT_all S q t).1, ← mv_at S q p t u]
    exact mv_now h hT t u
/-- A file of the two is taken away, for sure. -/
noncomputable def rmT (S : Fs) (r : ByteArray) (u : Int) : Fs := (Kq.setU (S.enact ⟨2, r, ⟨#[]⟩, pvN S.now r⟩) u).syncDir ⟨#[]⟩
theorem rm_all {r : ByteArray} (h : Stl p q S o) (hr : dirOf r = ⟨#[]⟩) (hd : isDir S.now r = false) (h0 : S.now r ≠ none) (u : Int) : (rmT S r u).now = (fun z => if z = r then none else S.now z) ∧ (rmT S r u).sure = (rmT S r u).now ∧ (rmT S r u).acts = [] ∧ (rmT S r u).files = S.files ∧ (rmT S r u).came = S.came := by
  obtain ⟨hn, hs, ha, hf, hc⟩ := Kq.dir_at (Kq.setU (S.enact ⟨2, r, ⟨#[]⟩, pvN S.now r⟩) u) ⟨#[]⟩
  obtain ⟨s1, s2, s3, s4, s5, _⟩ := Kq.setU_at (S.enact ⟨2, r, ⟨#[]⟩, pvN S.now r⟩) u
  obtain ⟨e1, e2, e3, e4, e5⟩ := Kq.enact_at S ⟨2, r, ⟨#[]⟩, pvN S.now r⟩
  have hdo : doN S.now ⟨2, r, ⟨#[]⟩, pvN S.now r⟩ = fun z => if z = r then none else S.now z := by
    unfold doN
    rw [if_neg (by show ¬ (2 : Nat) = 0; omega), if_neg (by show ¬ (2 : Nat) = 1; omega), if_pos ⟨h0, rfl, .inl hd⟩]
  have hN : (rmT S r u).now = (fun z => if z = r then none else S.now z) := by
    unfold rmT
    rw [hn, s1, e1, hdo]
  refine ⟨hN, ?_, ?_, ?_, ?_⟩
  · rw [hN]
    unfold rmT
    rw [hs, s2, s3, e2, e3, h.acts, h.sure, List.nil_append]
    simp only [List.filter_cons, in_root_rm hr, List.filter_nil, if_true, List.foldl_cons, List.foldl_nil]
    exact hdo
  · unfold rmT
    rw [ha, s3, e3, h.acts, List.nil_append]
    simp [in_root_rm hr]
  · unfold rmT
    rw [hf, s4, e4]
  · unfold rmT
    rw [hc, s5, e5]
theorem rm_p (h : Stl p q S o) (hT : Two p q) (h0 : S.now p ≠ none) (u : Int) : Stl p q (rmT S p u) none := by
  obtain ⟨hn, hs, ha, hf, hc⟩ := rm_all h hT.dp (h.dir hT.pp) h0 u
  refine ⟨fun r hr hr2 => ?_, .inl ⟨rfl, by rw [hn]; simp⟩, ?_, hs, ha⟩
  · rw [hn]
    simp only [if_neg hr]
    exact h.names r hr hr2
  · rw [hn, hc]
    simp only [if_neg hT.ne]
    exact h.by'
theorem rm_q (h : Stl p q S o) (hT : Two p q) (h0 : S.now q ≠ none) (u : Int) : Wh p q (rmT S q u) o := by
  obtain ⟨hn, hs, ha, hf, hc⟩ := rm_all h hT.dq (h.dirq hT.pq) h0 u
  have hq : (rmT S q u).now q = none := by rw [hn]; simp
  have hp : (rmT S q u).now p = S.now p := by rw [hn]; simp [Ne.symm hT.ne]
  refine ⟨⟨fun r hr hr2 => ?_, ?_, .inl hq, hs, ha⟩, hq⟩
  · rw [hn]
    simp only [if_neg hr2]
    exact h.names r hr hr2
  · rw [hp, hc, hf]
    exact h.file
end
end Go.Proofs.YtknmmlfdlfioiaaGreatDoor.Kf
namespace Go.Proofs.YtknmmlfdlfioiaaGreatDoor.Kf
open Vc Go.RowKit Go.Shelf
/-- A whole with power and no plan; one with a plan; one without power. -/
def Alive (n0 : Nat) (w0 : World) (fb B : Nat) (Q : Fs → Prop) (w : World) : Prop := ∃ (pl : Value) (A : Nat → Prop) (b : Nat) (S : Fs), Quiet pl ∧ b ≤ B ∧ Kq.Okn n0 w ∧ Rep pl n0 A b w fb S ∧ Q S ∧ Below n0 w0 w
def ReadyAt (n0 : Nat) (w0 : World) (fb B : Nat) (pl : Value) (g : Nat) (t k n : Int) (S : Fs) (w : World) : Prop := ∃ (A : Nat → Prop) (b : Nat), PlanAt w pl g t k n ∧ ¬ A g ∧ b ≤ B ∧ Kq.Okn n0 w ∧ Rep pl n0 A b w fb S ∧ Below n0 w0 w
def Ready (n0 : Nat) (w0 : World) (fb B : Nat) (Q : Fs → Prop) (t k n : Int) (w : World) : Prop := ∃ (pl : Value) (g : Nat) (S : Fs), Q S ∧ ReadyAt n0 w0 fb B pl g t k n S w
def Fallen (n0 : Nat) (w0 : World) (fb B : Nat) (Q : Fs → Prop) (w : World) : Prop := ∃ (pl : Value) (A : Nat → Prop) (b : Nat) (S : Fs), Quiet pl ∧ b ≤ B ∧ Kq.Okn n0 w ∧ Dead pl n0 A b w fb S ∧ Q S ∧ Below n0 w0 w
section
variable {n0 : Nat} {w0 w w' : World} {fb B B' b b' g room : Nat} {A : Nat → Prop} {pl : Value} {S S' : Fs} {Q Q' : Fs → Prop} {t k n : Int}
theorem Alive.mono (h : Alive n0 w0 fb B Q w) (hB : B ≤ B') (hQ : ∀ S, Q S → Q' S) : Alive n0 w0 fb B' Q' w := by
  obtain ⟨pl, A, b, S, h1, h2, h3, h4, h5, h6⟩ := h
  exact ⟨pl, A, b, S, h1, by omega, h3, h4, hQ S h5, h6⟩
theorem Fallen.mono (h : Fallen n0 w0 fb B Q w) (hB : B ≤ B') (hQ : ∀ S, Q S → Q' S) : Fallen n0 w0 fb B' Q' w := by
  obtain ⟨pl, A, b, S, h1, h2, h3, h4, h5, h6⟩ := h
  exact ⟨pl, A, b, S, h1, by omega, h3, h4, hQ S h5, h6⟩
theorem Alive.below (h : Alive n0 w0 fb B Q w) (hb : Below w.heap.size w w') : Alive n0 w0 fb B Q w' := by
  obtain ⟨pl, A, b, S, h1, h2, h3, h4, h5, h6⟩ := h
  have hb' := hb.mono h3.nw
  exact ⟨pl, A, b, S, h1, h2, h3.step hb', h4.keep (Kept.of_below hb), h5, h6.trans hb'⟩
theorem Ready.below (h : Ready n0 w0 fb B Q t k n w) (hb : Below w.heap.size w w') : Ready n0 w0 fb B Q t k n w' := by
  obtain ⟨pl, g, S, h1, A, b, h2, h3, h4, h5, h6, h7⟩ := h
  have hb' := hb.mono h5.nw
  obtain ⟨c, cur, e, h8, h9, hg, h10⟩ := h2
  exact ⟨pl, g, S, h1, A, b, ⟨c, cur, e, h8, h9, (Kept.of_below hb).fs hg (by simp), h10⟩, h3, h4, h5.step hb', h6.keep (Kept.of_below hb), h7.trans hb'⟩
theorem plan_out (h : PlanAt w pl g t k n) (hA : ¬ A g) (hO : Out A w w') : PlanAt w' pl g t k n := by
  obtain ⟨c, cur, e, h1, h2, h3, h4⟩ := h
  exact ⟨c, cur, e, h1, h2, hO.same g _ h3 hA, h4⟩
theorem plan_lt (h : PlanAt w pl g t k n) : g < w.heap.size := by
  obtain ⟨c, cur, e, h1, h2, h3, h4⟩ := h
  exact block_lt h3
theorem ready_of (hok : Kq.Okn n0 w) (hlo : ∀ g, A g → n0 ≤ g) (hb : Below n0 w0 w) (hp : PlanAt w pl g t k n) (hg : ¬ A g) (hr : RepTo pl n0 A b w fb S w') (hB : b ≤ B) : ReadyAt n0 w0 fb B pl g t k n S w' := by
  obtain ⟨A2, k1, k2, k3⟩ := hr
  have hbn := k3.below hok.nw hlo
  exact ⟨A2, b, plan_out hp hg k3, fun ha => (k1 g ha).elim hg (fun e => by have := plan_lt hp; omega), hB, hok.step hbn, k2, hb.trans hbn⟩
theorem alive_of (hok : Kq.Okn n0 w) (hlo : ∀ g, A g → n0 ≤ g) (hb : Below n0 w0 w) (hq : Quiet pl) (hr : RepTo pl n0 A b w fb S w') (hB : b ≤ B) (hQ : Q S) : Alive n0 w0 fb B Q w' := by
  obtain ⟨A2, k1, k2, k3⟩ := hr
  have hbn := k3.below hok.nw hlo
  exact ⟨pl, A2, b, S, hq, hB, hok.step hbn, k2, hQ, hb.trans hbn⟩
theorem fallen_of (hok : Kq.Okn n0 w) (hlo : ∀ g, A g → n0 ≤ g) (hb : Below n0 w0 w) (hq : Quiet pl) (hr : DeadTo pl n0 A b w fb S w') (hB : b ≤ B) (hQ : Q S) : Fallen n0 w0 fb B Q w' := by
  obtain ⟨A2, k1, k2, k3⟩ := hr
  have hbn := k3.below hok.nw hlo
  exact ⟨pl, A2, b, S, hq, hB, hok.step hbn, k2, hQ, hb.trans hbn⟩
/-- It strikes. -/
theorem struck_of (hok : Kq.Okn n0 w) (hlo : ∀ g, A g → n0 ≤ g) (hb : Below n0 w0 w) (hr : Struck n0 A b w fb S k w') (hB : b + 1 ≤ B) (hQ : ∀ S', Fell S S' k → Q S') : Fallen n0 w0 fb B Q w' := by
  obtain ⟨pl', S', h1, h2, h3⟩ := hr
  exact fallen_of hok hlo hb h1 h3 hB (hQ S' h2)
end
section
variable {n0 : Nat} {w0 w w' : World} {fb B g room U : Nat} {pl : Value} {S : Fs} {t k n : Int} {p q tx : ByteArray} {o : Option ByteArray}
theorem wr_q (h : Wh p q S o) (hT : Two p q) : S.wrN q = 0 := by
  unfold Fs.wrN
  rw [if_pos hT.pq, if_pos (root_of hT.dq _), h.1.dirq hT.pq]
  rfl
theorem sy_e (h : Wh p q S o) (hT : Two p q) (tx : ByteArray) : (S.fresh q tx).syE q = 0 := by
  have hn : (S.fresh q tx).now q = some (some S.came) := by rw [fr_now h hT]; simp
  unfold Fs.syE pvN
  rw [if_pos hT.pq, hn]
  rfl
theorem rn_e (h : Wh p q S o) (hT : Two p q) (tx : ByteArray) : (syT S q tx).rnE q p = 0 := by
  unfold Fs.rnE
  rw [if_pos ⟨hT.pq, hT.pp⟩, sy_q h hT, sy_pv h hT, hT.dp, Kq.isDir_root, sy_dir h hT, Kq.toL_eq, decide_eq_false hT.ne]
  rfl
theorem r_write (h : ReadyAt n0 w0 fb B pl g t k n S w) (hW : Wh p q S o) (hT : Two p q) (hB : B < 880) (htx : tx.size ≤ 100000000) (hF : ¬ Full S.used S.room (tx.size : Int)) (ht : (S.steps : Int) < t) : Calls Tryz.prog 40 #[.pointer (some ⟨fb, 0, none⟩), .string q, .string tx] w fun e w' => e = .returned (.int .i64 0) ∧ ReadyAt n0 w0 fb (B + 1) pl g t k n (S.fresh q tx) w' := by
  obtain ⟨A, b, h1, h2, h3, h4, h5, h6⟩ := h
  refine (write_new_rep h5 (by omega) (h1.calm ht) q tx (by have := hT.sq; omega) htx (wr_q hW hT) hW.2).mono fun e w' hr => ?_
  rcases hr with ⟨hF', _⟩ | ⟨_, he, hr⟩
  · exact absurd hF' hF
  · exact ⟨he, ready_of h4 h5.lo h6 h1 h2 hr (by omega)⟩
theorem r_sync (h : ReadyAt n0 w0 fb B pl g t k n (S.fresh q tx) w) (hW : Wh p q S o) (hT : Two p q) (hB : B < 880) (ht : (S.steps : Int) + 1 < t) : Calls Tryz.prog 41 #[.pointer (some ⟨fb, 0, none⟩), .string q] w fun e w' => e = .returned (.int .i64 0) ∧ ReadyAt n0 w0 fb (B + 1) pl g t k n (syT S q tx) w' := by
  obtain ⟨A, b, h1, h2, h3, h4, h5, h6⟩ := h
  have e0 := sy_e hW hT tx
  refine (sync_rep h5 (by omega) (h1.calm (by rw [(fresh_steps S q tx).1]; omega)) q (by have := hT.sq; omega)).mono fun e w' ⟨he, hr⟩ => ?_
  rw [e0] at he
  rcases hr with ⟨h0, _⟩ | ⟨_, S', ⟨x, hx, _, hS'⟩, hR⟩
  · exact absurd e0 h0
  · have hn : (S.fresh q tx).now q = some (some S.came) := by rw [fr_now hW hT]; simp
    rw [hn] at hx
    injection hx with hx
    injection hx with hx
    subst hx
    have e1 : (S.fresh q tx).files S.came = ⟨tx, ⟨#[]⟩⟩ := by
      rw [(Kq.fresh_all S q tx).2.2.1]
      simp [updF]
    rw [e1] at hS'
    rw [hS'] at hR
    exact ⟨he, ready_of h4 h5.lo h6 h1 h2 hR (by omega)⟩
theorem r_move (h : ReadyAt n0 w0 fb B pl g t k n (syT S q tx) w) (hW : Wh p q S o) (hT : Two p q) (hB : B < 880) (ht : (S.steps : Int) + 2 < t) : Calls Tryz.prog 42 #[.pointer (some ⟨fb, 0, none⟩), .string q, .string p] w fun e w' => e = .returned (.int .i64 0) ∧ ∃ u, u ≤ S.used + (tx.size : Int) ∧ ReadyAt n0 w0 fb (B + 1) pl g t k n (mvT S q p tx u) w' := by
  obtain ⟨A, b, h1, h2, h3, h4, h5, h6⟩ := h
  have e0 := rn_e hW hT tx
  refine (rename_rep h5 (by omega) (h1.calm (by rw [(syT_all S q tx).2.2.2.2.2]; omega)) q p (by have := hT.sq; omega) (by have := hT.sp; omega)).mono fun e w' ⟨he, hr⟩ => ?_
  rw [e0] at he
  rcases hr with ⟨h0, _⟩ | ⟨_, S', ⟨u, hu, hS'⟩, hR⟩
  · exact absurd e0 h0
  · rw [sy_pv hW hT] at hS'
    rw [hS'] at hR
    exact ⟨he, u, hu, ready_of h4 h5.lo h6 h1 h2 hR (by omega)⟩
theorem r_dir {u : Int} (h : ReadyAt n0 w0 fb B pl g t k n (mvT S q p tx u) w) (hB : B < 880) (ht : (S.steps : Int) + 3 < t) : Calls Tryz.prog 43 #[.pointer (some ⟨fb, 0, none⟩), .string ⟨#[]⟩] w fun e w' => e = .returned (.int .i64 0) ∧ ReadyAt n0 w0 fb (B + 1) pl g t k n ((mvT S q p tx u).syncDir ⟨#[]⟩) w' := by
  obtain ⟨A, b, h1, h2, h3, h4, h5, h6⟩ := h
  refine (syncDir_rep h5 (by omega) (h1.calm (by rw [(mvT_rest S q p tx u).1]; omega)) ⟨#[]⟩ (by decide)).mono fun e w' ⟨he, hr⟩ => ?_
  rw [Kq.nf_root] at he
  rcases hr with ⟨h0, _⟩ | ⟨_, S', hS', hR⟩
  · exact absurd Kq.nf_root h0
  · rw [hS'] at hR
    exact ⟨he, ready_of h4 h5.lo h6 h1 h2 hR (by omega)⟩
/-- What the fall leaves. -/
def Either (p q : ByteArray) (o : Option ByteArray) (tx : ByteArray) (S : Fs) : Prop := Stl p q S o ∨ Stl p q S (some tx)
theorem s_write (h : ReadyAt n0 w0 fb B pl g t k n S w) (hW : Wh p q S o) (hT : Two p q) (hB : B < 880) (htx : tx.size ≤ 100000000) (hF : ¬ Full S.used S.room (tx.size : Int)) (ht : t = (S.steps : Int)) : Calls Tryz.prog 40 #[.pointer (some ⟨fb, 0, none⟩), .string q, .string tx] w fun e w' => e = .returned (.int .i64 7) ∧ Fallen n0 w0 fb (B + 1) (Either p q o tx) w' := by
  obtain ⟨A, b, h1, h2, h3, h4, h5, h6⟩ := h
  exact (write_struck h5 (by omega) h1 ht q tx (by have := hT.sq; omega) htx (wr_q hW hT) hW.2 hF).mono fun e w' ⟨he, hr⟩ => ⟨he, struck_of h4 h5.lo h6 hr (by omega) (fun S' hf => .inl (fell0 hW hf).1)⟩
theorem s_sync (h : ReadyAt n0 w0 fb B pl g t k n (S.fresh q tx) w) (hW : Wh p q S o) (hT : Two p q) (hB : B < 880) (ht : t = (S.steps : Int) + 1) : Calls Tryz.prog 41 #[.pointer (some ⟨fb, 0, none⟩), .string q] w fun e w' => e = .returned (.int .i64 7) ∧ Fallen n0 w0 fb (B + 1) (Either p q o tx) w' := by
  obtain ⟨A, b, h1, h2, h3, h4, h5, h6⟩ := h
  exact (sync_struck h5 (by omega) h1 (by rw [(fresh_steps S q tx).1]; omega) q (by have := hT.sq; omega) (sy_e hW hT tx)).mono fun e w' ⟨he, hr⟩ => ⟨he, struck_of h4 h5.lo h6 hr (by omega) (fun S' hf => .inl (fell1 hW hT hf))⟩
theorem s_move (h : ReadyAt n0 w0 fb B pl g t k n (syT S q tx) w) (hW : Wh p q S o) (hT : Two p q) (hB : B < 880) (ht : t = (S.steps : Int) + 2) : Calls Tryz.prog 42 #[.pointer (some ⟨fb, 0, none⟩), .string q, .string p] w fun e w' => e = .returned (.int .i64 7) ∧ Fallen n0 w0 fb (B + 1) (Either p q o tx) w' := by
  obtain ⟨A, b, h1, h2, h3, h4, h5, h6⟩ := h
  exact (rename_struck h5 (by omega) h1 (by rw [(syT_all S q tx).2.2.2.2.2]; omega) q p (by have := hT.sq; omega) (by have := hT.sp; omega) (rn_e hW hT tx)).mono fun e w' ⟨he, hr⟩ => ⟨he, struck_of h4 h5.lo h6 hr (by omega) (fun S' hf => .inl (fell2 hW hT hf))⟩
theorem s_dir {u : Int} (h : ReadyAt n0 w0 fb B pl g t k n (mvT S q p tx u) w) (hW : Wh p q S o) (hT : Two p q) (hB : B < 880) (ht : t = (S.steps : Int) + 3) : Calls Tryz.prog 43 #[.pointer (some ⟨fb, 0, none⟩), .string ⟨#[]⟩] w fun e w' => e = .returned (.int .i64 7) ∧ Fallen n0 w0 fb (B + 1) (Either p q o tx) w' := by
  obtain ⟨A, b, h1, h2, h3, h4, h5, h6⟩ := h
  exact (syncDir_struck h5 (by omega) h1 (by rw [(mvT_rest S q p tx u).1]; omega) ⟨#[]⟩ (by decide) Kq.nf_root).mono fun e w' ⟨he, hr⟩ => ⟨he, struck_of h4 h5.lo h6 hr (by omega) (fun S' hf => fell3 hW hT hf)⟩
/-- What a place with a plan keeps to ahead of a Lay. -/
def LayQ (p q : ByteArray) (room U : Nat) (t : Int) (o : Option ByteArray) (S : Fs) : Prop := Wh p q S o ∧ S.room = room ∧ S.used ≤ (U : Int) ∧ (S.steps : Int) ≤ t
set_option maxHeartbeats 3200000 in
set_option maxRecDepth 100000 in
theorem lay_ready (h : Ready n0 w0 fb B (LayQ p q room U t o) t k n w) (hT : Two p q) (hB : B < 870) (htx : tx.size ≤ 100000000) (hroom : U + tx.size ≤ room) :
    Calls Tryz.prog 22 #[.pointer (some ⟨fb, 0, none⟩), .string ⟨#[]⟩, .string q, .string p, .string tx] w fun e w' => (e = .returned (.int .i64 0) ∧ Ready n0 w0 fb (B + 4) (LayQ p q room (U + tx.size) t (some tx)) t k n w') ∨ (e = .returned (.int .i64 7) ∧ Fallen n0 w0 fb (B + 4) (Either p q o tx) w') := by
  obtain ⟨pl, g, S, ⟨hW, hr, hu, hst⟩, hR⟩ := h
  have hF : ¬ Full S.used S.room (tx.size : Int) := fun hF => by have := hF.1; rw [hr] at this; omega
  have HFAL : Hid (∀ B' X, B' ≤ B + 4 → Fallen n0 w0 fb B' (Either p q o tx) X → Fallen n0 w0 fb (B + 4) (Either p q o tx) X) := hideIt (fun B' X hB' hX => hX.mono hB' (fun _ h => h))
  have HEND : Hid (∀ X, (S.steps : Int) + 3 < t → (∃ u, u ≤ S.used + (tx.size : Int) ∧ ReadyAt n0 w0 fb (B + 1 + 1 + 1 + 1) pl g t k n ((mvT S q p tx u).syncDir ⟨#[]⟩) X) → Ready n0 w0 fb (B + 4) (LayQ p q room (U + tx.size) t (some tx)) t k n X) := hideIt (fun X h3 ⟨u, hu2, hX⟩ => ⟨pl, g, _, ⟨lay_wh hW hT tx u, by rw [(dir_rest _ _).2.1, (mvT_rest S q p tx u).2.1]; exact hr, by rw [(dir_rest _ _).2.2, (mvT_rest S q p tx u).2.2]; omega, by rw [(dir_rest _ _).1, (mvT_rest S q p tx u).1]; omega⟩, hX⟩)
  have hc : t = (S.steps : Int) ∨ t = (S.steps : Int) + 1 ∨ t = (S.steps : Int) + 2 ∨ t = (S.steps : Int) + 3 ∨ (S.steps : Int) + 3 < t := by omega
  rcases hc with hc | hc | hc | hc | hc
  · have H1 := hideIt (s_write (tx := tx) hR hW hT (by omega) htx hF hc)
    clear hc hR hW hr hu hst hF htx hroom
    go_enter Tryz.func22, Tryz.ntmps22
    go_wp2_with (first | (go_at_call 40; refine H1.out.mono ?_; rintro e w1 ⟨rfl, t1⟩))
    go_ret
    exact .inr ⟨rfl, HFAL.out _ _ (by omega) t1⟩
  · have ht1 : (S.steps : Int) < t := by omega
    have H1 := hideIt (r_write (tx := tx) hR hW hT (by omega) htx hF ht1)
    have H2 := hideIt (fun X (hX : ReadyAt n0 w0 fb (B + 1) pl g t k n (S.fresh q tx) X) => s_sync hX hW hT (by omega) hc)
    clear hc hR hW hr hu hst hF htx hroom ht1
    go_enter Tryz.func22, Tryz.ntmps22
    go_wp2_with (first | (go_at_call 40; refine H1.out.mono ?_; rintro e w1 ⟨rfl, t1⟩) | (go_at_call 41; refine (H2.out _ t1).mono ?_; rintro e w2 ⟨rfl, t2⟩))
    go_ret
    exact .inr ⟨rfl, HFAL.out _ _ (by omega) t2⟩
  · have ht1 : (S.steps : Int) < t := by omega
    have H1 := hideIt (r_write (tx := tx) hR hW hT (by omega) htx hF ht1)
    have H2 := hideIt (fun X (hX : ReadyAt n0 w0 fb (B + 1) pl g t k n (S.fresh q tx) X) => r_sync hX hW hT (by omega) (by omega))
    have H3 := hideIt (fun X (hX : ReadyAt n0 w0 fb (B + 1 + 1) pl g t k n (syT S q tx) X) => s_move hX hW hT (by omega) hc)
    clear hc hR hW hr hu hst hF htx hroom ht1
    go_enter Tryz.func22, Tryz.ntmps22
    go_wp2_with (first | (go_at_call 40; refine H1.out.mono ?_; rintro e w1 ⟨rfl, t1⟩) | (go_at_call 41; refine (H2.out _ t1).mono ?_; rintro e w2 ⟨rfl, t2⟩) | (go_at_call 42; refine (H3.out _ t2).mono ?_; rintro e w3 ⟨rfl, t3⟩))
    go_ret
    exact .inr ⟨rfl, HFAL.out _ _ (by omega) t3⟩
  · have ht1 : (S.steps : Int) < t := by omega
    have H1 := hideIt (r_write (tx := tx) hR hW hT (by omega) htx hF ht1)
    have H2 := hideIt (fun X (hX : ReadyAt n0 w0 fb (B + 1) pl g t k n (S.fresh q tx) X) => r_sync hX hW hT (by omega) (by omega))
    have H3 := hideIt (fun X (hX : ReadyAt n0 w0 fb (B + 1 + 1) pl g t k n (syT S q tx) X) => r_move hX hW hT (by omega) (by omega))
    have H4 := hideIt (fun u X (hX : ReadyAt n0 w0 fb (B + 1 + 1 + 1) pl g t k n (mvT S q p tx u) X) => s_dir hX hW hT (by omega) hc)
    clear hc hR hW hr hu hst hF htx hroom ht1
    go_enter Tryz.func22, Tryz.ntmps22
    go_wp2_with (first | (go_at_call 40; refine H1.out.mono ?_; rintro e w1 ⟨rfl, t1⟩) | (go_at_call 41; refine (H2.out _ t1).mono ?_; rintro e w2 ⟨rfl, t2⟩) | (go_at_call 42; refine (H3.out _ t2).mono ?_; rintro e w3 ⟨rfl, u, hu, t3⟩) | (go_at_call 43; refine (H4.out _ _ t3).mono ?_; rintro e w4 ⟨rfl, t4⟩))
    go_ret
    exact .inr ⟨rfl, HFAL.out _ _ (by omega) t4⟩
  · have ht1 : (S.steps : Int) < t := by omega
    have H1 := hideIt (r_write (tx := tx) hR hW hT (by omega) htx hF ht1)
    have H2 := hideIt (fun X (hX : ReadyAt n0 w0 fb (B + 1) pl g t k n (S.fresh q tx) X) => r_sync hX hW hT (by omega) (by omega))
    have H3 := hideIt (fun X (hX : ReadyAt n0 w0 fb (B + 1 + 1) pl g t k n (syT S q tx) X) => r_move hX hW hT (by omega) (by omega))
    have H4 := hideIt (fun u X (hX : ReadyAt n0 w0 fb (B + 1 + 1 + 1) pl g t k n (mvT S q p tx u) X) => r_dir hX (by omega) hc)
    have HC := hideIt hc
    clear hc hR hW hr hu hst hF htx hroom ht1
    go_enter Tryz.func22, Tryz.ntmps22
    go_wp2_with (first | (go_at_call 40; refine H1.out.mono ?_; rintro e w1 ⟨rfl, t1⟩) | (go_at_call 41; refine (H2.out _ t1).mono ?_; rintro e w2 ⟨rfl, t2⟩) | (go_at_call 42; refine (H3.out _ t2).mono ?_; rintro e w3 ⟨rfl, u, hu, t3⟩) | (go_at_call 43; refine (H4.out _ _ t3).mono ?_; rintro e w4 ⟨rfl, t4⟩))
    go_ret
    exact .inl ⟨rfl, HEND.out _ HC.out ⟨u, hu, t4⟩⟩
end
end Go.Proofs.YtknmmlfdlfioiaaGreatDoor.Kf
namespace Go.Proofs.YtknmmlfdlfioiaaGreatDoor.Kf
open Vc Go.RowKit Go.Shelf
/-- A new place; one with power and a picture of its own. -/
def FreshAt (n0 : Nat) (w0 : World) (fb room : Nat) (w : World) : Prop := Kq.Okn n0 w ∧ n0 ≤ fb ∧ NewAt w fb room ∧ room ≤ 1000000000000000 ∧ Below n0 w0 w
def AliveAt (n0 : Nat) (w0 : World) (fb B : Nat) (pl : Value) (S : Fs) (w : World) : Prop := ∃ (A : Nat → Prop) (b : Nat), b ≤ B ∧ Kq.Okn n0 w ∧ Rep pl n0 A b w fb S ∧ Below n0 w0 w
section
variable {n0 : Nat} {w0 w w' : World} {fb B B' b b' g ga c room U : Nat} {A : Nat → Prop} {pl : Value} {S S' : Fs} {Q Q' : Fs → Prop} {t k n : Int} {p q tx : ByteArray} {o : Option ByteArray}
theorem quiet0 : Quiet Kq.P0 := ⟨none, 0, rfl⟩
theorem AliveAt.all (h : AliveAt n0 w0 fb B pl S w) (hq : Quiet pl) (hQ : Q S) : Alive n0 w0 fb B Q w := by
  obtain ⟨A, b, h1, h2, h3, h4⟩ := h
  exact ⟨pl, A, b, S, hq, h1, h2, h3, hQ, h4⟩
theorem Alive.one (h : Alive n0 w0 fb B Q w) : ∃ pl S, Quiet pl ∧ Q S ∧ AliveAt n0 w0 fb B pl S w := by
  obtain ⟨pl, A, b, S, h1, h2, h3, h4, h5, h6⟩ := h
  exact ⟨pl, S, h1, h5, A, b, h2, h3, h4, h6⟩
theorem AliveAt.below (h : AliveAt n0 w0 fb B pl S w) (hb : Below w.heap.size w w') : AliveAt n0 w0 fb B pl S w' := by
  obtain ⟨A, b, h1, h2, h3, h4⟩ := h
  have hb' := hb.mono h2.nw
  exact ⟨A, b, h1, h2.step hb', h3.keep (Kept.of_below hb), h4.trans hb'⟩
theorem AliveAt.mono (h : AliveAt n0 w0 fb B pl S w) (hB : B ≤ B') : AliveAt n0 w0 fb B' pl S w := by
  obtain ⟨A, b, h1, h2, h3, h4⟩ := h
  exact ⟨A, b, by omega, h2, h3, h4⟩
theorem aliveAt_of (hok : Kq.Okn n0 w) (hlo : ∀ g, A g → n0 ≤ g) (hb : Below n0 w0 w) (hr : RepTo pl n0 A b w fb S w') (hB : b ≤ B) : AliveAt n0 w0 fb B pl S w' := by
  obtain ⟨A2, k1, k2, k3⟩ := hr
  have hbn := k3.below hok.nw hlo
  exact ⟨A2, b, hB, hok.step hbn, k2, hb.trans hbn⟩
/-- A cell below what the place lies in is set. -/
theorem AliveAt.set (h : AliveAt n0 w0 fb B pl S w) (hz : 1 < g) (hg : g < n0) (i : Nat) (u : Value) : AliveAt n0 (w.setCell ⟨g, i, none⟩ u) fb B pl S (w.setCell ⟨g, i, none⟩ u) := by
  obtain ⟨A, b, h1, h2, h3, h4⟩ := h
  have hnw := h2.nw
  have ho : Kq.Okn g w := ⟨h2.kat, h2.max, hz, by omega⟩
  have hb : Below g w (w.setCell ⟨g, i, none⟩ u) := (Below.refl g w).setCell (p := ⟨g, i, none⟩) (Nat.le_refl _) _
  have ho' := ho.step hb
  have hsz : (w.setCell ⟨g, i, none⟩ u).heap.size = w.heap.size := by simp [World.setCell]
  refine ⟨A, b, h1, ⟨ho'.kat, ho'.max, h2.z0, by rw [hsz]; exact hnw⟩, ?_, Below.refl _ _⟩
  refine h3.stay (by rw [hsz]; exact Nat.le_refl _) ho'.max (fun j x hx ha => ?_)
  have hj := h3.lo j ha
  rw [heap_setCell_other w ⟨g, i, none⟩ _ _ (by first | omega | (simp; omega))]
  exact hx
theorem f_write (h : FreshAt n0 w0 fb room w) (hT : Two p q) (htx : tx.size ≤ 100000000) (hroom : tx.size ≤ room) : Calls Tryz.prog 40 #[.pointer (some ⟨fb, 0, none⟩), .string q, .string tx] w fun e w' => e = .returned (.int .i64 0) ∧ AliveAt n0 w0 fb 1 Kq.P0 ((noFs room).fresh q tx) w' := by
  obtain ⟨h1, h2, h3, h4, h5⟩ := h
  refine (write_fresh h3 h1.max h4 h1.zm h2 q tx (by have := hT.sq; omega) htx hT.pq (by rw [hT.dq]) hroom).mono fun e w' ⟨he, hr⟩ => ⟨he, aliveAt_of h1 (fun g hg => by rw [hg]; exact h2) h5 hr (Nat.le_refl _)⟩
theorem a_sync (h : AliveAt n0 w0 fb B pl (S.fresh q tx) w) (hq : Quiet pl) (hW : Wh p q S o) (hT : Two p q) (hB : B < 880) : Calls Tryz.prog 41 #[.pointer (some ⟨fb, 0, none⟩), .string q] w fun e w' => e = .returned (.int .i64 0) ∧ AliveAt n0 w0 fb (B + 1) pl (syT S q tx) w' := by
  obtain ⟨A, b, h3, h4, h5, h6⟩ := h
  have e0 := sy_e hW hT tx
  refine (sync_rep h5 (by omega) (hq.calm _ _) q (by have := hT.sq; omega)).mono fun e w' ⟨he, hr⟩ => ?_
  rw [e0] at he
  rcases hr with ⟨h0, _⟩ | ⟨_, S', ⟨x, hx, _, hS'⟩, hR⟩
  · exact absurd e0 h0
  · have hn : (S.fresh q tx).now q = some (some S.came) := by rw [fr_now hW hT]; simp
    rw [hn] at hx
    injection hx with hx
    injection hx with hx
    subst hx
    have e1 : (S.fresh q tx).files S.came = ⟨tx, ⟨#[]⟩⟩ := by
      rw [(Kq.fresh_all S q tx).2.2.1]
      simp [updF]
    rw [e1] at hS'
    rw [hS'] at hR
    exact ⟨he, aliveAt_of h4 h5.lo h6 hR (by omega)⟩
theorem a_move (h : AliveAt n0 w0 fb B pl (syT S q tx) w) (hq : Quiet pl) (hW : Wh p q S o) (hT : Two p q) (hB : B < 880) : Calls Tryz.prog 42 #[.pointer (some ⟨fb, 0, none⟩), .string q, .string p] w fun e w' => e = .returned (.int .i64 0) ∧ ∃ u, u ≤ S.used + (tx.size : Int) ∧ AliveAt n0 w0 fb (B + 1) pl (mvT S q p tx u) w' := by
  obtain ⟨A, b, h3, h4, h5, h6⟩ := h
  have e0 := rn_e hW hT tx
  refine (rename_rep h5 (by omega) (hq.calm _ _) q p (by have := hT.sq; omega) (by have := hT.sp; omega)).mono fun e w' ⟨he, hr⟩ => ?_
  rw [e0] at he
  rcases hr with ⟨h0, _⟩ | ⟨_, S', ⟨u, hu, hS'⟩, hR⟩
  · exact absurd e0 h0
  · rw [sy_pv hW hT] at hS'
    rw [hS'] at hR
    exact ⟨he, u, hu, aliveAt_of h4 h5.lo h6 hR (by omega)⟩
theorem a_root (h : AliveAt n0 w0 fb B pl S w) (hq : Quiet pl) (hB : B < 880) : Calls Tryz.prog 43 #[.pointer (some ⟨fb, 0, none⟩), .string ⟨#[]⟩] w fun e w' => e = .returned (.int .i64 0) ∧ AliveAt n0 w0 fb (B + 1) pl (S.syncDir ⟨#[]⟩) w' := by
  obtain ⟨A, b, h3, h4, h5, h6⟩ := h
  refine (syncDir_rep h5 (by omega) (hq.calm _ _) ⟨#[]⟩ (by decide)).mono fun e w' ⟨he, hr⟩ => ?_
  rw [Kq.nf_root] at he
  rcases hr with ⟨h0, _⟩ | ⟨_, S', hS', hR⟩
  · exact absurd Kq.nf_root h0
  · rw [hS'] at hR
    exact ⟨he, aliveAt_of h4 h5.lo h6 hR (by omega)⟩
set_option maxHeartbeats 1600000 in
set_option maxRecDepth 100000 in
/-- Lay at a new place. -/
theorem lay_fresh (h : FreshAt n0 w0 fb room w) (hT : Two p q) (htx : tx.size ≤ 100000000) (hroom : tx.size ≤ room) :
    Calls Tryz.prog 22 #[.pointer (some ⟨fb, 0, none⟩), .string ⟨#[]⟩, .string q, .string p, .string tx] w fun e w' => e = .returned (.int .i64 0) ∧ ∃ S, Wh p q S (some tx) ∧ S.room = room ∧ S.used ≤ (tx.size : Int) ∧ S.steps = 4 ∧ AliveAt n0 w0 fb 4 Kq.P0 S w' := by
  have hW : Wh p q (noFs room) none := wh_no room
  have HEND : Hid (∀ X, (∃ u, u ≤ (noFs room).used + (tx.size : Int) ∧ AliveAt n0 w0 fb (1 + 1 + 1 + 1) Kq.P0 ((mvT (noFs room) q p tx u).syncDir ⟨#[]⟩) X) → ∃ S, Wh p q S (some tx) ∧ S.room = room ∧ S.used ≤ (tx.size : Int) ∧ S.steps = 4 ∧ AliveAt n0 w0 fb 4 Kq.P0 S X) := hideIt (fun X ⟨u, hu2, hX⟩ => ⟨_, lay_wh hW hT tx u, by rw [(dir_rest _ _).2.1, (mvT_rest (noFs room) q p tx u).2.1]; rfl, by rw [(dir_rest _ _).2.2, (mvT_rest (noFs room) q p tx u).2.2]; have : (noFs room).used = 0 := rfl; omega, by rw [(dir_rest _ _).1, (mvT_rest (noFs room) q p tx u).1]; rfl, hX⟩)
  have H1 := hideIt (f_write h hT htx hroom)
  have H2 := hideIt (fun X (hX : AliveAt n0 w0 fb 1 Kq.P0 ((noFs room).fresh q tx) X) => a_sync hX quiet0 hW hT (by omega))
  have H3 := hideIt (fun X (hX : AliveAt n0 w0 fb (1 + 1) Kq.P0 (syT (noFs room) q tx) X) => a_move hX quiet0 hW hT (by omega))
  have H4 := hideIt (fun u X (hX : AliveAt n0 w0 fb (1 + 1 + 1) Kq.P0 (mvT (noFs room) q p tx u) X) => a_root hX quiet0 (by omega))
  clear h hW htx hroom
  go_enter Tryz.func22, Tryz.ntmps22
  go_wp2_with (first
    | (go_at_call 40; refine H1.out.mono ?_; rintro e w1 ⟨rfl, t1⟩)
    | (go_at_call 41; refine (H2.out _ t1).mono ?_; rintro e w2 ⟨rfl, t2⟩)
    | (go_at_call 42; refine (H3.out _ t2).mono ?_; rintro e w3 ⟨rfl, u, hu, t3⟩)
    | (go_at_call 43; refine (H4.out _ _ t3).mono ?_; rintro e w4 ⟨rfl, t4⟩))
  go_ret
  exact ⟨rfl, HEND.out _ ⟨u, hu, t4⟩⟩
theorem a_steps (h : AliveAt n0 w0 fb B pl S w) : Calls Tryz.prog 6 #[.pointer (some ⟨fb, 0, none⟩)] w fun e w' => e = .returned (.int .i64 (S.steps : Int)) ∧ w' = w := by
  obtain ⟨A, b, h1, h2, h3, h4⟩ := h
  obtain ⟨b1, b2, b3, done, n1, n2, n3, D1, D2, D3, F, e1, e2, e3, hS, hL⟩ := h3.laid
  exact steps_at hS.fs
/-- A fall is planned. -/
theorem a_plan (h : AliveAt n0 w0 fb B pl S w) (hg : w.heap[ga]? = some (.cells #[.int .i64 t, .int .u64 k, .int .i64 n] 32 (0, 0))) : Calls Tryz.prog 7 #[.pointer (some ⟨fb, 0, none⟩), .slice (some ⟨ga, 0, none⟩) 1 c] w fun e w' => e = .returned (.tuple #[]) ∧ ∃ pl' g, ReadyAt n0 w0 fb B pl' g t k n S w' := by
  obtain ⟨A, b, h1, h2, h3, h4⟩ := h
  obtain ⟨b1, b2, b3, done, n1, n2, n3, D1, D2, D3, F, e1, e2, e3, hS, hL⟩ := h3.laid
  have hfs := hS.fs
  have hlt := Vc.block_lt hfs
  refine (plan_gen (n := 1) hfs (by omega) (fun v w1 => ∃ g, w.heap.size ≤ g ∧ PlanAt w1 v g t k n) ((clone_one hg).mono fun e w' ⟨v, g, he, h1, h2, h3⟩ => ?_)).mono fun e w' ⟨he, v, w1, ⟨g, g1, g2⟩, hk, hw, _⟩ => ⟨he, ?_⟩
  · have h2' := h2
    obtain ⟨c', cur, rfl, _⟩ := h2'
    exact ⟨_, c', he, ⟨g, h1, h2⟩, h3⟩
  · have hr1 : Replan w1 w' fb pl v := ⟨by rw [hw]; exact Kept.set fb 8 v, fun nv sv dv uv came used room steps dead h' => by
      rw [hw]
      unfold FsAt
      rw [heap_setCell_same w1 fb 8 _ 54 _ h']
      rfl⟩
    have hR1 := h3.keep hk
    have hgl := plan_lt g2
    have hb1 : Below n0 w w1 := (Kq.kept_bel hk).mono h2.nw
    obtain ⟨A2, k1, k2, k3⟩ := hR1.planned hr1
    have hbn := k3.below (Nat.le_trans h2.nw hk.size) h3.lo
    refine ⟨v, g, A2, b, ?_, fun ha => ?_, h1, (h2.step hb1).step hbn, k2, (h4.trans hb1).trans hbn⟩
    · obtain ⟨c', cur, e1, h3, h4, h5, h6⟩ := g2
      refine ⟨c', cur, e1, h3, h4, ?_, h6⟩
      rw [hw]
      exact (Kept.set fb 8 v).fs h5 (by simp; omega)
    · rcases k1 g ha with e | e
      · have := h3.inA g e
        omega
      · omega
/-- None is planned any more. -/
theorem r_none (h : Ready n0 w0 fb B Q t k n w) : Calls Tryz.prog 7 #[.pointer (some ⟨fb, 0, none⟩), .slice none 0 0] w fun e w' => e = .returned (.tuple #[]) ∧ Alive n0 w0 fb B Q w' := by
  obtain ⟨pl, g, S, hQ, A, b, _, _, h2, h3, h4, h5⟩ := h
  obtain ⟨b1, b2, b3, done, n1, n2, n3, D1, D2, D3, F, e1, e2, e3, hS, hL⟩ := h4.laid
  exact (plan_none hS.fs).mono fun e w' ⟨he, hr⟩ => ⟨he, alive_of h3 h4.lo h5 quiet0 (h4.planned hr) h2 hQ⟩
theorem d_none (h : Fallen n0 w0 fb B Q w) : Calls Tryz.prog 7 #[.pointer (some ⟨fb, 0, none⟩), .slice none 0 0] w fun e w' => e = .returned (.tuple #[]) ∧ Fallen n0 w0 fb B Q w' := by
  obtain ⟨pl, A, b, S, _, h2, h3, h4, hQ, h5⟩ := h
  obtain ⟨nb, b2, b3, n, D, F, hn, hfs, r⟩ := h4.laid
  exact (plan_none hfs).mono fun e w' ⟨he, hr⟩ => ⟨he, fallen_of h3 h4.lo h5 quiet0 (h4.planned hr) h2 hQ⟩
/-- A fall between two calls; where there is no power, none. -/
theorem a_crash (h : Alive n0 w0 fb B Q w) (hB : B < 890) (k n : Int) (hQ : ∀ S S', Q S → Fell S S' k → Q' S') : Calls Tryz.prog 12 #[.pointer (some ⟨fb, 0, none⟩), .int .u64 k, .int .i64 n] w fun e w' => e = .returned (.tuple #[]) ∧ Fallen n0 w0 fb (B + 1) Q' w' := by
  obtain ⟨pl, A, b, S, hq, h2, h3, h4, hQS, h5⟩ := h
  exact (crash_rep h4 (by omega) k n).mono fun e w' ⟨he, S', hf, hr⟩ => ⟨he, fallen_of h3 h4.lo h5 hq hr (by omega) (hQ S S' hQS hf)⟩
theorem d_crash (h : Fallen n0 w0 fb B Q w) (k n : Int) : Calls Tryz.prog 12 #[.pointer (some ⟨fb, 0, none⟩), .int .u64 k, .int .i64 n] w fun e w' => e = .returned (.tuple #[]) ∧ Fallen n0 w0 fb B Q w' := by
  obtain ⟨pl, A, b, S, hq, h2, h3, h4, hQS, h5⟩ := h
  obtain ⟨nb, b2, b3, m, D, F, hn, hfs, r⟩ := h4.laid
  exact (crash_off hfs k n).mono fun e w' ⟨he, hk⟩ => ⟨he, fallen_of h3 h4.lo h5 hq (h4.planned ⟨hk.sub (by simp), fun nv sv dv uv came used room steps dead h' => hk.fs h' (by simp)⟩) h2 hQS⟩
theorem d_up (h : Fallen n0 w0 fb B Q w) : Calls Tryz.prog 13 #[.pointer (some ⟨fb, 0, none⟩)] w fun e w' => e = .returned (.bool true) ∧ Alive n0 w0 fb B Q w' := by
  obtain ⟨pl, A, b, S, hq, h2, h3, h4, hQS, h5⟩ := h
  exact (up_rep h4).mono fun e w' ⟨he, hr⟩ => ⟨he, alive_of h3 h4.lo h5 hq hr h2 hQS⟩
/-- What the path reads. -/
theorem a_read (h : AliveAt n0 w0 fb B pl S w) (hq : Quiet pl) (hS : Stl p q S o) (hT : Two p q) : Calls Tryz.prog 32 #[.pointer (some ⟨fb, 0, none⟩), .string p] w fun e w' => e = .returned (Kq.readV o) ∧ AliveAt n0 w0 fb B pl S w' := by
  have h0 := h
  obtain ⟨A, b, h1, h2, h3, h4⟩ := h
  refine (read_rep h3 (hq.calm _ _) p (by have := hT.sp; omega)).mono fun e w' ⟨hk, hr⟩ => ⟨?_, h0.below (Kq.kept_bel hk)⟩
  rcases hS.file with ⟨e1, e2⟩ | ⟨s, x, e1, e2, e3, e4⟩
  · have e5 : S.syE p = 2 := by
      unfold Fs.syE
      rw [if_pos hT.pp, e2]
      rfl
    rcases hr with ⟨_, he⟩ | ⟨h0, _⟩
    · rw [he, e5, e1]; rfl
    · rw [e5] at h0; cases h0
  · have e5 : S.syE p = 0 := by
      unfold Fs.syE pvN
      rw [if_pos hT.pp, e3]
      rfl
    rcases hr with ⟨h0, _⟩ | ⟨_, y, hy, _, he⟩
    · exact absurd e5 h0
    · rw [e3] at hy
      injection hy with hy
      injection hy with hy
      subst hy
      rw [he, e4, e1]
      rfl
theorem a_remove (h : AliveAt n0 w0 fb B pl S w) (hq : Quiet pl) (hB : B < 880) (r : ByteArray) (hr : pathL r.data.toList = true) (hs : r.size ≤ 1000) (hd : isDir S.now r = false) (h0 : S.now r ≠ none) : Calls Tryz.prog 53 #[.pointer (some ⟨fb, 0, none⟩), .string r] w fun e w' => e = .returned (.int .i64 0) ∧ ∃ u, u ≤ S.used ∧ AliveAt n0 w0 fb (B + 1) pl (Kq.setU (S.enact ⟨2, r, ⟨#[]⟩, pvN S.now r⟩) u) w' := by
  obtain ⟨A, b, h1, h2, h3, h4⟩ := h
  have e2 : S.rmE r = 0 := by
    unfold Fs.rmE
    rw [if_pos hr, if_pos (Option.isSome_iff_ne_none.2 h0), hd]
    rfl
  refine (remove_rep h3 (by omega) (hq.calm _ _) r (by omega)).mono fun e w' ⟨he, hr⟩ => ?_
  rw [e2] at he
  rcases hr with ⟨h0, _⟩ | ⟨_, S', ⟨u, hu, hS'⟩, hR⟩
  · exact absurd e2 h0
  · rw [hS'] at hR
    exact ⟨he, u, hu, aliveAt_of h2 h3.lo h4 hR (by omega)⟩
theorem a_remove_none (h : AliveAt n0 w0 fb B pl S w) (hq : Quiet pl) (hB : B < 880) (r : ByteArray) (hr : pathL r.data.toList = true) (hs : r.size ≤ 1000) (h0 : S.now r = none) : Calls Tryz.prog 53 #[.pointer (some ⟨fb, 0, none⟩), .string r] w fun e w' => e = .returned (.int .i64 2) ∧ AliveAt n0 w0 fb B pl S w' := by
  have hh := h
  obtain ⟨A, b, h1, h2, h3, h4⟩ := h
  have e2 : S.rmE r = 2 := by
    unfold Fs.rmE
    rw [if_pos hr, h0]
    rfl
  refine (remove_rep h3 (by omega) (hq.calm _ _) r (by omega)).mono fun e w' ⟨he, hr⟩ => ?_
  rw [e2] at he
  rcases hr with ⟨_, hk⟩ | ⟨h0, _⟩
  · exact ⟨he, hh.below (Kq.kept_bel hk)⟩
  · rw [e2] at h0; cases h0
set_option maxHeartbeats 1600000 in
set_option maxRecDepth 100000 in
theorem clear_some (h : AliveAt n0 w0 fb B pl S w) (hq : Quiet pl) (hB : B < 870) (r : ByteArray) (hr : pathL r.data.toList = true) (hs : r.size ≤ 1000) (hd : isDir S.now r = false) (h0 : S.now r ≠ none) : Calls Tryz.prog 31 #[.pointer (some ⟨fb, 0, none⟩), .string ⟨#[]⟩, .string r] w fun e w' => e = .returned (.int .i64 0) ∧ ∃ u, u ≤ S.used ∧ AliveAt n0 w0 fb (B + 2) pl (rmT S r u) w' := by
  have H1 := hideIt (a_remove h hq (by omega) r hr hs hd h0)
  have H2 := hideIt (fun u X (hX : AliveAt n0 w0 fb (B + 1) pl (Kq.setU (S.enact ⟨2, r, ⟨#[]⟩, pvN S.now r⟩) u) X) => a_root hX hq (by omega))
  clear h hq hB hr hs hd h0
  go_enter Tryz.func31, Tryz.ntmps31
  go_wp2_with (first
    | (go_at_call 53; refine H1.out.mono ?_; rintro e w1 ⟨rfl, u, hu, t1⟩)
    | (go_at_call 43; refine (H2.out _ _ t1).mono ?_; rintro e w2 ⟨rfl, t2⟩))
  go_ret
  exact ⟨rfl, u, hu, t2⟩
set_option maxHeartbeats 1600000 in
set_option maxRecDepth 100000 in
theorem clear_gone (h : AliveAt n0 w0 fb B pl S w) (hq : Quiet pl) (hB : B < 870) (r : ByteArray) (hr : pathL r.data.toList = true) (hs : r.size ≤ 1000) (h0 : S.now r = none) : Calls Tryz.prog 31 #[.pointer (some ⟨fb, 0, none⟩), .string ⟨#[]⟩, .string r] w fun e w' => e = .returned (.int .i64 0) ∧ AliveAt n0 w0 fb B pl S w' := by
  have H1 := hideIt (a_remove_none h hq (by omega) r hr hs h0)
  clear h hq hB hr hs h0
  go_enter Tryz.func31, Tryz.ntmps31
  go_wp2_with (first
    | (go_at_call 53; refine H1.out.mono ?_; rintro e w1 ⟨rfl, t1⟩))
  go_ret
  exact ⟨rfl, t1⟩
end
end Go.Proofs.YtknmmlfdlfioiaaGreatDoor.Kf
namespace Go.Proofs.YtknmmlfdlfioiaaGreatDoor.Kf
open Vc Go.RowKit Go.Shelf
namespace G
/-- What stands beside a place, and stays whatever the place does. -/
def Stab (R : (Nat → Prop) → World → Prop) : Prop := ∀ (A A2 : Nat → Prop) (w w' : World), R A w → (∀ g, A2 g → A g ∨ w.heap.size ≤ g) → Out A w w' → R A2 w'
def Rz (R : (Nat → Prop) → World → Prop) (A : Nat → Prop) (w : World) : Prop := Stab R ∧ R A w
theorem Rz.step {R : (Nat → Prop) → World → Prop} {A A2 : Nat → Prop} {w w' : World} (h : Rz R A w) (hA : ∀ g, A2 g → A g ∨ w.heap.size ≤ g) (hO : Out A w w') : Rz R A2 w' := ⟨h.1, h.1 A A2 w w' h.2 hA hO⟩
theorem Rz.weak {R : (Nat → Prop) → World → Prop} {A : Nat → Prop} {g : Nat} {w : World} (h : Rz R (fun z => A z ∨ z = g) w) : Rz R A w := h.step (fun _ hg => .inl (.inl hg)) (Out.kept (Kept.refl _ _))
theorem Rz.stepP {R : (Nat → Prop) → World → Prop} {A A2 : Nat → Prop} {g : Nat} {w w' : World} (h : Rz R (fun z => A z ∨ z = g) w) (hA : ∀ g, A2 g → A g ∨ w.heap.size ≤ g) (hO : Out A w w') : Rz R (fun z => A2 z ∨ z = g) w' :=
  h.step (fun z hz => hz.elim (fun e => (hA z e).elim (fun e => .inl (.inl e)) .inr) (fun e => .inl (.inr e))) ⟨hO.os, hO.tape, hO.output, hO.size, fun z x hx hn => hO.same z x hx (fun e => hn (.inl e))⟩
theorem Rz.kept {R : (Nat → Prop) → World → Prop} {A : Nat → Prop} {w w' : World} (h : Rz R A w) (hk : Kept [] w w') : Rz R A w' := h.step (fun _ hg => .inl hg) (Out.kept hk)
/-- What the fall leaves; the room stays. -/
def EitherR (p q : ByteArray) (o : Option ByteArray) (tx : ByteArray) (room : Nat) (S : Fs) : Prop := Either p q o tx S ∧ S.room = room
/-- A whole with power and no plan; one with a plan; one without power. -/
def Alive (n0 : Nat) (R : (Nat → Prop) → World → Prop) (fb B : Nat) (Q : Fs → Prop) (w : World) : Prop := ∃ (pl : Value) (A : Nat → Prop) (b : Nat) (S : Fs), Quiet pl ∧ b ≤ B ∧ Kq.Okn n0 w ∧ Rep pl n0 A b w fb S ∧ Q S ∧ Rz R A w
def ReadyAt (n0 : Nat) (R : (Nat → Prop) → World → Prop) (fb B : Nat) (pl : Value) (g : Nat) (t k n : Int) (S : Fs) (w : World) : Prop := ∃ (A : Nat → Prop) (b : Nat), PlanAt w pl g t k n ∧ ¬ A g ∧ b ≤ B ∧ Kq.Okn n0 w ∧ Rep pl n0 A b w fb S ∧ Rz R (fun z => A z ∨ z = g) w
def Ready (n0 : Nat) (R : (Nat → Prop) → World → Prop) (fb B : Nat) (Q : Fs → Prop) (t k n : Int) (w : World) : Prop := ∃ (pl : Value) (g : Nat) (S : Fs), Q S ∧ ReadyAt n0 R fb B pl g t k n S w
def Fallen (n0 : Nat) (R : (Nat → Prop) → World → Prop) (fb B : Nat) (Q : Fs → Prop) (w : World) : Prop := ∃ (pl : Value) (A : Nat → Prop) (b : Nat) (S : Fs), Quiet pl ∧ b ≤ B ∧ Kq.Okn n0 w ∧ Dead pl n0 A b w fb S ∧ Q S ∧ Rz R A w
section
variable {n0 : Nat} {R : (Nat → Prop) → World → Prop} {w w' : World} {fb B B' b b' g room : Nat} {A : Nat → Prop} {pl : Value} {S S' : Fs} {Q Q' : Fs → Prop} {t k n : Int}
theorem Alive.mono (h : Alive n0 R fb B Q w) (hB : B ≤ B') (hQ : ∀ S, Q S → Q' S) : Alive n0 R fb B' Q' w := by
  obtain ⟨pl, A, b, S, h1, h2, h3, h4, h5, h6⟩ := h
  exact ⟨pl, A, b, S, h1, by omega, h3, h4, hQ S h5, h6⟩
theorem Fallen.mono (h : Fallen n0 R fb B Q w) (hB : B ≤ B') (hQ : ∀ S, Q S → Q' S) : Fallen n0 R fb B' Q' w := by
  obtain ⟨pl, A, b, S, h1, h2, h3, h4, h5, h6⟩ := h
  exact ⟨pl, A, b, S, h1, by omega, h3, h4, hQ S h5, h6⟩
theorem Alive.below (h : Alive n0 R fb B Q w) (hb : Below w.heap.size w w') : Alive n0 R fb B Q w' := by
  obtain ⟨pl, A, b, S, h1, h2, h3, h4, h5, h6⟩ := h
  have hb' := hb.mono h3.nw
  exact ⟨pl, A, b, S, h1, h2, h3.step hb', h4.keep (Kept.of_below hb), h5, h6.kept (Kept.of_below hb)⟩
theorem Ready.below (h : Ready n0 R fb B Q t k n w) (hb : Below w.heap.size w w') : Ready n0 R fb B Q t k n w' := by
  obtain ⟨pl, g, S, h1, A, b, h2, h3, h4, h5, h6, h7⟩ := h
  have hb' := hb.mono h5.nw
  obtain ⟨c, cur, e, h8, h9, hg, h10⟩ := h2
  exact ⟨pl, g, S, h1, A, b, ⟨c, cur, e, h8, h9, (Kept.of_below hb).fs hg (by simp), h10⟩, h3, h4, h5.step hb', h6.keep (Kept.of_below hb), h7.kept (Kept.of_below hb)⟩
theorem ready_of (hok : Kq.Okn n0 w) (hlo : ∀ g, A g → n0 ≤ g) (hb : Rz R (fun z => A z ∨ z = g) w) (hp : PlanAt w pl g t k n) (hg : ¬ A g) (hr : RepTo pl n0 A b w fb S w') (hB : b ≤ B) : ReadyAt n0 R fb B pl g t k n S w' := by
  obtain ⟨A2, k1, k2, k3⟩ := hr
  have hbn := k3.below hok.nw hlo
  exact ⟨A2, b, plan_out hp hg k3, fun ha => (k1 g ha).elim hg (fun e => by have := plan_lt hp; omega), hB, hok.step hbn, k2, hb.stepP k1 k3⟩
theorem alive_of (hok : Kq.Okn n0 w) (hlo : ∀ g, A g → n0 ≤ g) (hb : Rz R A w) (hq : Quiet pl) (hr : RepTo pl n0 A b w fb S w') (hB : b ≤ B) (hQ : Q S) : Alive n0 R fb B Q w' := by
  obtain ⟨A2, k1, k2, k3⟩ := hr
  have hbn := k3.below hok.nw hlo
  exact ⟨pl, A2, b, S, hq, hB, hok.step hbn, k2, hQ, hb.step k1 k3⟩
theorem fallen_of (hok : Kq.Okn n0 w) (hlo : ∀ g, A g → n0 ≤ g) (hb : Rz R A w) (hq : Quiet pl) (hr : DeadTo pl n0 A b w fb S w') (hB : b ≤ B) (hQ : Q S) : Fallen n0 R fb B Q w' := by
  obtain ⟨A2, k1, k2, k3⟩ := hr
  have hbn := k3.below hok.nw hlo
  exact ⟨pl, A2, b, S, hq, hB, hok.step hbn, k2, hQ, hb.step k1 k3⟩
/-- It strikes. -/
theorem struck_of (hok : Kq.Okn n0 w) (hlo : ∀ g, A g → n0 ≤ g) (hb : Rz R A w) (hr : Struck n0 A b w fb S k w') (hB : b + 1 ≤ B) (hQ : ∀ S', Fell S S' k → Q S') : Fallen n0 R fb B Q w' := by
  obtain ⟨pl', S', h1, h2, h3⟩ := hr
  exact fallen_of hok hlo hb h1 h3 hB (hQ S' h2)
end
section
variable {n0 : Nat} {R : (Nat → Prop) → World → Prop} {w w' : World} {fb B g room U : Nat} {pl : Value} {S : Fs} {t k n : Int} {p q tx : ByteArray} {o : Option ByteArray}
theorem r_write (h : ReadyAt n0 R fb B pl g t k n S w) (hW : Wh p q S o) (hT : Two p q) (hB : B < 880) (htx : tx.size ≤ 100000000) (hF : ¬ Full S.used S.room (tx.size : Int)) (ht : (S.steps : Int) < t) : Calls Tryz.prog 40 #[.pointer (some ⟨fb, 0, none⟩), .string q, .string tx] w fun e w' => e = .returned (.int .i64 0) ∧ ReadyAt n0 R fb (B + 1) pl g t k n (S.fresh q tx) w' := by
  obtain ⟨A, b, h1, h2, h3, h4, h5, h6⟩ := h
  refine (write_new_rep h5 (by omega) (h1.calm ht) q tx (by have := hT.sq; omega) htx (wr_q hW hT) hW.2).mono fun e w' hr => ?_
  rcases hr with ⟨hF', _⟩ | ⟨_, he, hr⟩
  · exact absurd hF' hF
  · exact ⟨he, ready_of h4 h5.lo h6 h1 h2 hr (by omega)⟩
theorem r_sync (h : ReadyAt n0 R fb B pl g t k n (S.fresh q tx) w) (hW : Wh p q S o) (hT : Two p q) (hB : B < 880) (ht : (S.steps : Int) + 1 < t) : Calls Tryz.prog 41 #[.pointer (some ⟨fb, 0, none⟩), .string q] w fun e w' => e = .returned (.int .i64 0) ∧ ReadyAt n0 R fb (B + 1) pl g t k n (syT S q tx) w' := by
  obtain ⟨A, b, h1, h2, h3, h4, h5, h6⟩ := h
  have e0 := sy_e hW hT tx
  refine (sync_rep h5 (by omega) (h1.calm (by rw [(fresh_steps S q tx).1]; omega)) q (by have := hT.sq; omega)).mono fun e w' ⟨he, hr⟩ => ?_
  rw [e0] at he
  rcases hr with ⟨h0, _⟩ | ⟨_, S', ⟨x, hx, _, hS'⟩, hR⟩
  · exact absurd e0 h0
  · have hn : (S.fresh q tx).now q = some (some S.came) := by rw [fr_now hW hT]; simp
    rw [hn] at hx
    injection hx with hx
    injection hx with hx
    subst hx
    have e1 : (S.fresh q tx).files S.came = ⟨tx, ⟨#[]⟩⟩ := by
      rw [(Kq.fresh_all S q tx).2.2.1]
      simp [updF]
    rw [e1] at hS'
    rw [hS'] at hR
    exact ⟨he, ready_of h4 h5.lo h6 h1 h2 hR (by omega)⟩
theorem r_move (h : ReadyAt n0 R fb B pl g t k n (syT S q tx) w) (hW : Wh p q S o) (hT : Two p q) (hB : B < 880) (ht : (S.steps : Int) + 2 < t) : Calls Tryz.prog 42 #[.pointer (some ⟨fb, 0, none⟩), .string q, .string p] w fun e w' => e = .returned (.int .i64 0) ∧ ∃ u, u ≤ S.used + (tx.size : Int) ∧ ReadyAt n0 R fb (B + 1) pl g t k n (mvT S q p tx u) w' := by
  obtain ⟨A, b, h1, h2, h3, h4, h5, h6⟩ := h
  have e0 := rn_e hW hT tx
  refine (rename_rep h5 (by omega) (h1.calm (by rw [(syT_all S q tx).2.2.2.2.2]; omega)) q p (by have := hT.sq; omega) (by have := hT.sp; omega)).mono fun e w' ⟨he, hr⟩ => ?_
  rw [e0] at he
  rcases hr with ⟨h0, _⟩ | ⟨_, S', ⟨u, hu, hS'⟩, hR⟩
  · exact absurd e0 h0
  · rw [sy_pv hW hT] at hS'
    rw [hS'] at hR
    exact ⟨he, u, hu, ready_of h4 h5.lo h6 h1 h2 hR (by omega)⟩
theorem r_dir {u : Int} (h : ReadyAt n0 R fb B pl g t k n (mvT S q p tx u) w) (hB : B < 880) (ht : (S.steps : Int) + 3 < t) : Calls Tryz.prog 43 #[.pointer (some ⟨fb, 0, none⟩), .string ⟨#[]⟩] w fun e w' => e = .returned (.int .i64 0) ∧ ReadyAt n0 R fb (B + 1) pl g t k n ((mvT S q p tx u).syncDir ⟨#[]⟩) w' := by
  obtain ⟨A, b, h1, h2, h3, h4, h5, h6⟩ := h
  refine (syncDir_rep h5 (by omega) (h1.calm (by rw [(mvT_rest S q p tx u).1]; omega)) ⟨#[]⟩ (by decide)).mono fun e w' ⟨he, hr⟩ => ?_
  rw [Kq.nf_root] at he
  rcases hr with ⟨h0, _⟩ | ⟨_, S', hS', hR⟩
  · exact absurd Kq.nf_root h0
  · rw [hS'] at hR
    exact ⟨he, ready_of h4 h5.lo h6 h1 h2 hR (by omega)⟩
theorem s_write (h : ReadyAt n0 R fb B pl g t k n S w) (hW : Wh p q S o) (hT : Two p q) (hB : B < 880) (htx : tx.size ≤ 100000000) (hF : ¬ Full S.used S.room (tx.size : Int)) (ht : t = (S.steps : Int)) : Calls Tryz.prog 40 #[.pointer (some ⟨fb, 0, none⟩), .string q, .string tx] w fun e w' => e = .returned (.int .i64 7) ∧ Fallen n0 R fb (B + 1) (EitherR p q o tx S.room) w' := by
  obtain ⟨A, b, h1, h2, h3, h4, h5, h6⟩ := h
  exact (write_struck h5 (by omega) h1 ht q tx (by have := hT.sq; omega) htx (wr_q hW hT) hW.2 hF).mono fun e w' ⟨he, hr⟩ => ⟨he, struck_of h4 h5.lo h6.weak hr (by omega) (fun S' hf => ⟨.inl (fell0 hW hf).1, hf.room⟩)⟩
theorem s_sync (h : ReadyAt n0 R fb B pl g t k n (S.fresh q tx) w) (hW : Wh p q S o) (hT : Two p q) (hB : B < 880) (ht : t = (S.steps : Int) + 1) : Calls Tryz.prog 41 #[.pointer (some ⟨fb, 0, none⟩), .string q] w fun e w' => e = .returned (.int .i64 7) ∧ Fallen n0 R fb (B + 1) (EitherR p q o tx S.room) w' := by
  obtain ⟨A, b, h1, h2, h3, h4, h5, h6⟩ := h
  exact (sync_struck h5 (by omega) h1 (by rw [(fresh_steps S q tx).1]; omega) q (by have := hT.sq; omega) (sy_e hW hT tx)).mono fun e w' ⟨he, hr⟩ => ⟨he, struck_of h4 h5.lo h6.weak hr (by omega) (fun S' hf => ⟨.inl (fell1 hW hT hf), hf.room.trans (fresh_steps S q tx).2.1⟩)⟩
theorem s_move (h : ReadyAt n0 R fb B pl g t k n (syT S q tx) w) (hW : Wh p q S o) (hT : Two p q) (hB : B < 880) (ht : t = (S.steps : Int) + 2) : Calls Tryz.prog 42 #[.pointer (some ⟨fb, 0, none⟩), .string q, .string p] w fun e w' => e = .returned (.int .i64 7) ∧ Fallen n0 R fb (B + 1) (EitherR p q o tx S.room) w' := by
  obtain ⟨A, b, h1, h2, h3, h4, h5, h6⟩ := h
  exact (rename_struck h5 (by omega) h1 (by rw [(syT_all S q tx).2.2.2.2.2]; omega) q p (by have := hT.sq; omega) (by have := hT.sp; omega) (rn_e hW hT tx)).mono fun e w' ⟨he, hr⟩ => ⟨he, struck_of h4 h5.lo h6.weak hr (by omega) (fun S' hf => ⟨.inl (fell2 hW hT hf), hf.room.trans (syT_rest S q tx).1⟩)⟩
theorem s_dir {u : Int} (h : ReadyAt n0 R fb B pl g t k n (mvT S q p tx u) w) (hW : Wh p q S o) (hT : Two p q) (hB : B < 880) (ht : t = (S.steps : Int) + 3) : Calls Tryz.prog 43 #[.pointer (some ⟨fb, 0, none⟩), .string ⟨#[]⟩] w fun e w' => e = .returned (.int .i64 7) ∧ Fallen n0 R fb (B + 1) (EitherR p q o tx S.room) w' := by
  obtain ⟨A, b, h1, h2, h3, h4, h5, h6⟩ := h
  exact (syncDir_struck h5 (by omega) h1 (by rw [(mvT_rest S q p tx u).1]; omega) ⟨#[]⟩ (by decide) Kq.nf_root).mono fun e w' ⟨he, hr⟩ => ⟨he, struck_of h4 h5.lo h6.weak hr (by omega) (fun S' hf => ⟨fell3 hW hT hf, hf.room.trans (mvT_rest S q p tx u).2.1⟩)⟩
set_option maxHeartbeats 3200000 in
set_option maxRecDepth 100000 in
theorem lay_ready (h : Ready n0 R fb B (LayQ p q room U t o) t k n w) (hT : Two p q) (hB : B < 870) (htx : tx.size ≤ 100000000) (hroom : U + tx.size ≤ room) :
    Calls Tryz.prog 22 #[.pointer (some ⟨fb, 0, none⟩), .string ⟨#[]⟩, .string q, .string p, .string tx] w fun e w' => (e = .returned (.int .i64 0) ∧ Ready n0 R fb (B + 4) (LayQ p q room (U + tx.size) t (some tx)) t k n w') ∨ (e = .returned (.int .i64 7) ∧ Fallen n0 R fb (B + 4) (EitherR p q o tx room) w') := by
  obtain ⟨pl, g, S, ⟨hW, hr, hu, hst⟩, hR⟩ := h
  have hF : ¬ Full S.used S.room (tx.size : Int) := fun hF => by have := hF.1; rw [hr] at this; omega
  have HFAL : Hid (∀ B' X, B' ≤ B + 4 → Fallen n0 R fb B' (EitherR p q o tx S.room) X → Fallen n0 R fb (B + 4) (EitherR p q o tx room) X) := hideIt (fun B' X hB' hX => hX.mono hB' (fun _ h => ⟨h.1, h.2.trans hr⟩))
  have HEND : Hid (∀ X, (S.steps : Int) + 3 < t → (∃ u, u ≤ S.used + (tx.size : Int) ∧ ReadyAt n0 R fb (B + 1 + 1 + 1 + 1) pl g t k n ((mvT S q p tx u).syncDir ⟨#[]⟩) X) → Ready n0 R fb (B + 4) (LayQ p q room (U + tx.size) t (some tx)) t k n X) := hideIt (fun X h3 ⟨u, hu2, hX⟩ => ⟨pl, g, _, ⟨lay_wh hW hT tx u, by rw [(dir_rest _ _).2.1, (mvT_rest S q p tx u).2.1]; exact hr, by rw [(dir_rest _ _).2.2, (mvT_rest S q p tx u).2.2]; omega, by rw [(dir_rest _ _).1, (mvT_rest S q p tx u).1]; omega⟩, hX⟩)
  have hc : t = (S.steps : Int) ∨ t = (S.steps : Int) + 1 ∨ t = (S.steps : Int) + 2 ∨ t = (S.steps : Int) + 3 ∨ (S.steps : Int) + 3 < t := by omega
  rcases hc with hc | hc | hc | hc | hc
  · have H1 := hideIt (s_write (tx := tx) hR hW hT (by omega) htx hF hc)
    clear hc hR hW hr hu hst hF htx hroom
    go_enter Tryz.func22, Tryz.ntmps22
    go_wp2_with (first | (go_at_call 40; refine H1.out.mono ?_; rintro e w1 ⟨rfl, t1⟩))
    go_ret
    exact .inr ⟨rfl, HFAL.out _ _ (by omega) t1⟩
  · have ht1 : (S.steps : Int) < t := by omega
    have H1 := hideIt (r_write (tx := tx) hR hW hT (by omega) htx hF ht1)
    have H2 := hideIt (fun X (hX : ReadyAt n0 R fb (B + 1) pl g t k n (S.fresh q tx) X) => s_sync hX hW hT (by omega) hc)
    clear hc hR hW hr hu hst hF htx hroom ht1
    go_enter Tryz.func22, Tryz.ntmps22
    go_wp2_with (first | (go_at_call 40; refine H1.out.mono ?_; rintro e w1 ⟨rfl, t1⟩) | (go_at_call 41; refine (H2.out _ t1).mono ?_; rintro e w2 ⟨rfl, t2⟩))
    go_ret
    exact .inr ⟨rfl, HFAL.out _ _ (by omega) t2⟩
  · have ht1 : (S.steps : Int) < t := by omega
    have H1 := hideIt (r_write (tx := tx) hR hW hT (by omega) htx hF ht1)
    have H2 := hideIt (fun X (hX : ReadyAt n0 R fb (B + 1) pl g t k n (S.fresh q tx) X) => r_sync hX hW hT (by omega) (by omega))
    have H3 := hideIt (fun X (hX : ReadyAt n0 R fb (B + 1 + 1) pl g t k n (syT S q tx) X) => s_move hX hW hT (by omega) hc)
    clear hc hR hW hr hu hst hF htx hroom ht1
    go_enter Tryz.func22, Tryz.ntmps22
    go_wp2_with (first | (go_at_call 40; refine H1.out.mono ?_; rintro e w1 ⟨rfl, t1⟩) | (go_at_call 41; refine (H2.out _ t1).mono ?_; rintro e w2 ⟨rfl, t2⟩) | (go_at_call 42; refine (H3.out _ t2).mono ?_; rintro e w3 ⟨rfl, t3⟩))
    go_ret
    exact .inr ⟨rfl, HFAL.out _ _ (by omega) t3⟩
  · have ht1 : (S.steps : Int) < t := by omega
    have H1 := hideIt (r_write (tx := tx) hR hW hT (by omega) htx hF ht1)
    have H2 := hideIt (fun X (hX : ReadyAt n0 R fb (B + 1) pl g t k n (S.fresh q tx) X) => r_sync hX hW hT (by omega) (by omega))
    have H3 := hideIt (fun X (hX : ReadyAt n0 R fb (B + 1 + 1) pl g t k n (syT S q tx) X) => r_move hX hW hT (by omega) (by omega))
    have H4 := hideIt (fun u X (hX : ReadyAt n0 R fb (B + 1 + 1 + 1) pl g t k n (mvT S q p tx u) X) => s_dir hX hW hT (by omega) hc)
    clear hc hR hW hr hu hst hF htx hroom ht1
    go_enter Tryz.func22, Tryz.ntmps22
    go_wp2_with (first | (go_at_call 40; refine H1.out.mono ?_; rintro e w1 ⟨rfl, t1⟩) | (go_at_call 41; refine (H2.out _ t1).mono ?_; rintro e w2 ⟨rfl, t2⟩) | (go_at_call 42; refine (H3.out _ t2).mono ?_; rintro e w3 ⟨rfl, u, hu, t3⟩) | (go_at_call 43; refine (H4.out _ _ t3).mono ?_; rintro e w4 ⟨rfl, t4⟩))
    go_ret
    exact .inr ⟨rfl, HFAL.out _ _ (by omega) t4⟩
  · have ht1 : (S.steps : Int) < t := by omega
    have H1 := hideIt (r_write (tx := tx) hR hW hT (by omega) htx hF ht1)
    have H2 := hideIt (fun X (hX : ReadyAt n0 R fb (B + 1) pl g t k n (S.fresh q tx) X) => r_sync hX hW hT (by omega) (by omega))
    have H3 := hideIt (fun X (hX : ReadyAt n0 R fb (B + 1 + 1) pl g t k n (syT S q tx) X) => r_move hX hW hT (by omega) (by omega))
    have H4 := hideIt (fun u X (hX : ReadyAt n0 R fb (B + 1 + 1 + 1) pl g t k n (mvT S q p tx u) X) => r_dir hX (by omega) hc)
    have HC := hideIt hc
    clear hc hR hW hr hu hst hF htx hroom ht1
    go_enter Tryz.func22, Tryz.ntmps22
    go_wp2_with (first | (go_at_call 40; refine H1.out.mono ?_; rintro e w1 ⟨rfl, t1⟩) | (go_at_call 41; refine (H2.out _ t1).mono ?_; rintro e w2 ⟨rfl, t2⟩) | (go_at_call 42; refine (H3.out _ t2).mono ?_; rintro e w3 ⟨rfl, u, hu, t3⟩) | (go_at_call 43; refine (H4.out _ _ t3).mono ?_; rintro e w4 ⟨rfl, t4⟩))
    go_ret
    exact .inl ⟨rfl, HEND.out _ HC.out ⟨u, hu, t4⟩⟩
end
end G
end Go.Proofs.YtknmmlfdlfioiaaGreatDoor.Kf
namespace Go.Proofs.YtknmmlfdlfioiaaGreatDoor.Kf
open Vc Go.RowKit Go.Shelf
namespace G
def AliveAt (n0 : Nat) (R : (Nat → Prop) → World → Prop) (fb B : Nat) (pl : Value) (S : Fs) (w : World) : Prop := ∃ (A : Nat → Prop) (b : Nat), b ≤ B ∧ Kq.Okn n0 w ∧ Rep pl n0 A b w fb S ∧ Rz R A w
section
variable {n0 : Nat} {R : (Nat → Prop) → World → Prop} {w w' : World} {fb B B' b b' g ga c room U : Nat} {A : Nat → Prop} {pl : Value} {S S' : Fs} {Q Q' : Fs → Prop} {t k n : Int} {p q tx : ByteArray} {o : Option ByteArray}
theorem AliveAt.all (h : AliveAt n0 R fb B pl S w) (hq : Quiet pl) (hQ : Q S) : Alive n0 R fb B Q w := by
  obtain ⟨A, b, h1, h2, h3, h4⟩ := h
  exact ⟨pl, A, b, S, hq, h1, h2, h3, hQ, h4⟩
theorem Alive.one (h : Alive n0 R fb B Q w) : ∃ pl S, Quiet pl ∧ Q S ∧ AliveAt n0 R fb B pl S w := by
  obtain ⟨pl, A, b, S, h1, h2, h3, h4, h5, h6⟩ := h
  exact ⟨pl, S, h1, h5, A, b, h2, h3, h4, h6⟩
theorem AliveAt.below (h : AliveAt n0 R fb B pl S w) (hb : Below w.heap.size w w') : AliveAt n0 R fb B pl S w' := by
  obtain ⟨A, b, h1, h2, h3, h4⟩ := h
  have hb' := hb.mono h2.nw
  exact ⟨A, b, h1, h2.step hb', h3.keep (Kept.of_below hb), h4.kept (Kept.of_below hb)⟩
theorem AliveAt.mono (h : AliveAt n0 R fb B pl S w) (hB : B ≤ B') : AliveAt n0 R fb B' pl S w := by
  obtain ⟨A, b, h1, h2, h3, h4⟩ := h
  exact ⟨A, b, by omega, h2, h3, h4⟩
theorem aliveAt_of (hok : Kq.Okn n0 w) (hlo : ∀ g, A g → n0 ≤ g) (hb : Rz R A w) (hr : RepTo pl n0 A b w fb S w') (hB : b ≤ B) : AliveAt n0 R fb B pl S w' := by
  obtain ⟨A2, k1, k2, k3⟩ := hr
  have hbn := k3.below hok.nw hlo
  exact ⟨A2, b, hB, hok.step hbn, k2, hb.step k1 k3⟩
theorem a_sync (h : AliveAt n0 R fb B pl (S.fresh q tx) w) (hq : Quiet pl) (hW : Wh p q S o) (hT : Two p q) (hB : B < 880) : Calls Tryz.prog 41 #[.pointer (some ⟨fb, 0, none⟩), .string q] w fun e w' => e = .returned (.int .i64 0) ∧ AliveAt n0 R fb (B + 1) pl (syT S q tx) w' := by
  obtain ⟨A, b, h3, h4, h5, h6⟩ := h
  have e0 := sy_e hW hT tx
  refine (sync_rep h5 (by omega) (hq.calm _ _) q (by have := hT.sq; omega)).mono fun e w' ⟨he, hr⟩ => ?_
  rw [e0] at he
  rcases hr with ⟨h0, _⟩ | ⟨_, S', ⟨x, hx, _, hS'⟩, hR⟩
  · exact absurd e0 h0
  · have hn : (S.fresh q tx).now q = some (some S.came) := by rw [fr_now hW hT]; simp
    rw [hn] at hx
    injection hx with hx
    injection hx with hx
    subst hx
    have e1 : (S.fresh q tx).files S.came = ⟨tx, ⟨#[]⟩⟩ := by
      rw [(Kq.fresh_all S q tx).2.2.1]
      simp [updF]
    rw [e1] at hS'
    rw [hS'] at hR
    exact ⟨he, aliveAt_of h4 h5.lo h6 hR (by omega)⟩
theorem a_move (h : AliveAt n0 R fb B pl (syT S q tx) w) (hq : Quiet pl) (hW : Wh p q S o) (hT : Two p q) (hB : B < 880) : Calls Tryz.prog 42 #[.pointer (some ⟨fb, 0, none⟩), .string q, .string p] w fun e w' => e = .returned (.int .i64 0) ∧ ∃ u, u ≤ S.used + (tx.size : Int) ∧ AliveAt n0 R fb (B + 1) pl (mvT S q p tx u) w' := by
  obtain ⟨A, b, h3, h4, h5, h6⟩ := h
  have e0 := rn_e hW hT tx
  refine (rename_rep h5 (by omega) (hq.calm _ _) q p (by have := hT.sq; omega) (by have := hT.sp; omega)).mono fun e w' ⟨he, hr⟩ => ?_
  rw [e0] at he
  rcases hr with ⟨h0, _⟩ | ⟨_, S', ⟨u, hu, hS'⟩, hR⟩
  · exact absurd e0 h0
  · rw [sy_pv hW hT] at hS'
    rw [hS'] at hR
    exact ⟨he, u, hu, aliveAt_of h4 h5.lo h6 hR (by omega)⟩
theorem a_root (h : AliveAt n0 R fb B pl S w) (hq : Quiet pl) (hB : B < 880) : Calls Tryz.prog 43 #[.pointer (some ⟨fb, 0, none⟩), .string ⟨#[]⟩] w fun e w' => e = .returned (.int .i64 0) ∧ AliveAt n0 R fb (B + 1) pl (S.syncDir ⟨#[]⟩) w' := by
  obtain ⟨A, b, h3, h4, h5, h6⟩ := h
  refine (syncDir_rep h5 (by omega) (hq.calm _ _) ⟨#[]⟩ (by decide)).mono fun e w' ⟨he, hr⟩ => ?_
  rw [Kq.nf_root] at he
  rcases hr with ⟨h0, _⟩ | ⟨_, S', hS', hR⟩
  · exact absurd Kq.nf_root h0
  · rw [hS'] at hR
    exact ⟨he, aliveAt_of h4 h5.lo h6 hR (by omega)⟩
theorem a_steps (h : AliveAt n0 R fb B pl S w) : Calls Tryz.prog 6 #[.pointer (some ⟨fb, 0, none⟩)] w fun e w' => e = .returned (.int .i64 (S.steps : Int)) ∧ w' = w := by
  obtain ⟨A, b, h1, h2, h3, h4⟩ := h
  obtain ⟨b1, b2, b3, done, n1, n2, n3, D1, D2, D3, F, e1, e2, e3, hS, hL⟩ := h3.laid
  exact steps_at hS.fs
/-- A fall is planned. -/
theorem a_plan (h : AliveAt n0 R fb B pl S w) (hg : w.heap[ga]? = some (.cells #[.int .i64 t, .int .u64 k, .int .i64 n] 32 (0, 0))) : Calls Tryz.prog 7 #[.pointer (some ⟨fb, 0, none⟩), .slice (some ⟨ga, 0, none⟩) 1 c] w fun e w' => e = .returned (.tuple #[]) ∧ ∃ pl' g, ReadyAt n0 R fb B pl' g t k n S w' := by
  obtain ⟨A, b, h1, h2, h3, h4⟩ := h
  obtain ⟨b1, b2, b3, done, n1, n2, n3, D1, D2, D3, F, e1, e2, e3, hS, hL⟩ := h3.laid
  have hfs := hS.fs
  have hlt := Vc.block_lt hfs
  refine (plan_gen (n := 1) hfs (by omega) (fun v w1 => ∃ g, w.heap.size ≤ g ∧ PlanAt w1 v g t k n) ((clone_one hg).mono fun e w' ⟨v, g, he, h1, h2, h3⟩ => ?_)).mono fun e w' ⟨he, v, w1, ⟨g, g1, g2⟩, hk, hw, _⟩ => ⟨he, ?_⟩
  · have h2' := h2
    obtain ⟨c', cur, rfl, _⟩ := h2'
    exact ⟨_, c', he, ⟨g, h1, h2⟩, h3⟩
  · have hr1 : Replan w1 w' fb pl v := ⟨by rw [hw]; exact Kept.set fb 8 v, fun nv sv dv uv came used room steps dead h' => by
      rw [hw]
      unfold FsAt
      rw [heap_setCell_same w1 fb 8 _ 54 _ h']
      rfl⟩
    have hR1 := h3.keep hk
    have hgl := plan_lt g2
    have hb1 : Below n0 w w1 := (Kq.kept_bel hk).mono h2.nw
    obtain ⟨A2, k1, k2, k3⟩ := hR1.planned hr1
    have hbn := k3.below (Nat.le_trans h2.nw hk.size) h3.lo
    refine ⟨v, g, A2, b, ?_, fun ha => ?_, h1, (h2.step hb1).step hbn, k2, h4.step (fun z hz => hz.elim (fun e => (k1 z e).elim .inl (fun e => .inr (Nat.le_trans hk.size e))) (fun e => .inr (e ▸ g1))) ((Out.kept hk).trans k3 (fun _ h => .inl h))⟩
    · obtain ⟨c', cur, e1, h3, h4, h5, h6⟩ := g2
      refine ⟨c', cur, e1, h3, h4, ?_, h6⟩
      rw [hw]
      exact (Kept.set fb 8 v).fs h5 (by simp; omega)
    · rcases k1 g ha with e | e
      · have := h3.inA g e
        omega
      · omega
/-- None is planned any more. -/
theorem r_none (h : Ready n0 R fb B Q t k n w) : Calls Tryz.prog 7 #[.pointer (some ⟨fb, 0, none⟩), .slice none 0 0] w fun e w' => e = .returned (.tuple #[]) ∧ Alive n0 R fb B Q w' := by
  obtain ⟨pl, g, S, hQ, A, b, _, _, h2, h3, h4, h5⟩ := h
  obtain ⟨b1, b2, b3, done, n1, n2, n3, D1, D2, D3, F, e1, e2, e3, hS, hL⟩ := h4.laid
  exact (plan_none hS.fs).mono fun e w' ⟨he, hr⟩ => ⟨he, alive_of h3 h4.lo h5.weak quiet0 (h4.planned hr) h2 hQ⟩
theorem d_none (h : Fallen n0 R fb B Q w) : Calls Tryz.prog 7 #[.pointer (some ⟨fb, 0, none⟩), .slice none 0 0] w fun e w' => e = .returned (.tuple #[]) ∧ Fallen n0 R fb B Q w' := by
  obtain ⟨pl, A, b, S, _, h2, h3, h4, hQ, h5⟩ := h
  obtain ⟨nb, b2, b3, n, D, F, hn, hfs, r⟩ := h4.laid
  exact (plan_none hfs).mono fun e w' ⟨he, hr⟩ => ⟨he, fallen_of h3 h4.lo h5 quiet0 (h4.planned hr) h2 hQ⟩
/-- A fall between two calls; where there is no power, none. -/
theorem a_crash (h : Alive n0 R fb B Q w) (hB : B < 890) (k n : Int) (hQ : ∀ S S', Q S → Fell S S' k → Q' S') : Calls Tryz.prog 12 #[.pointer (some ⟨fb, 0, none⟩), .int .u64 k, .int .i64 n] w fun e w' => e = .returned (.tuple #[]) ∧ Fallen n0 R fb (B + 1) Q' w' := by
  obtain ⟨pl, A, b, S, hq, h2, h3, h4, hQS, h5⟩ := h
  exact (crash_rep h4 (by omega) k n).mono fun e w' ⟨he, S', hf, hr⟩ => ⟨he, fallen_of h3 h4.lo h5 hq hr (by omega) (hQ S S' hQS hf)⟩
theorem d_crash (h : Fallen n0 R fb B Q w) (k n : Int) : Calls Tryz.prog 12 #[.pointer (some ⟨fb, 0, none⟩), .int .u64 k, .int .i64 n] w fun e w' => e = .returned (.tuple #[]) ∧ Fallen n0 R fb B Q w' := by
  obtain ⟨pl, A, b, S, hq, h2, h3, h4, hQS, h5⟩ := h
  obtain ⟨nb, b2, b3, m, D, F, hn, hfs, r⟩ := h4.laid
  exact (crash_off hfs k n).mono fun e w' ⟨he, hk⟩ => ⟨he, fallen_of h3 h4.lo h5 hq (h4.planned ⟨hk.sub (by simp), fun nv sv dv uv came used room steps dead h' => hk.fs h' (by simp)⟩) h2 hQS⟩
theorem d_up (h : Fallen n0 R fb B Q w) : Calls Tryz.prog 13 #[.pointer (some ⟨fb, 0, none⟩)] w fun e w' => e = .returned (.bool true) ∧ Alive n0 R fb B Q w' := by
  obtain ⟨pl, A, b, S, hq, h2, h3, h4, hQS, h5⟩ := h
  exact (up_rep h4).mono fun e w' ⟨he, hr⟩ => ⟨he, alive_of h3 h4.lo h5 hq hr h2 hQS⟩
/-- What the path reads. -/
theorem a_read (h : AliveAt n0 R fb B pl S w) (hq : Quiet pl) (hS : Stl p q S o) (hT : Two p q) : Calls Tryz.prog 32 #[.pointer (some ⟨fb, 0, none⟩), .string p] w fun e w' => e = .returned (Kq.readV o) ∧ AliveAt n0 R fb B pl S w' := by
  have h0 := h
  obtain ⟨A, b, h1, h2, h3, h4⟩ := h
  refine (read_rep h3 (hq.calm _ _) p (by have := hT.sp; omega)).mono fun e w' ⟨hk, hr⟩ => ⟨?_, h0.below (Kq.kept_bel hk)⟩
  rcases hS.file with ⟨e1, e2⟩ | ⟨s, x, e1, e2, e3, e4⟩
  · have e5 : S.syE p = 2 := by
      unfold Fs.syE
      rw [if_pos hT.pp, e2]
      rfl
    rcases hr with ⟨_, he⟩ | ⟨h0, _⟩
    · rw [he, e5, e1]; rfl
    · rw [e5] at h0; cases h0
  · have e5 : S.syE p = 0 := by
      unfold Fs.syE pvN
      rw [if_pos hT.pp, e3]
      rfl
    rcases hr with ⟨h0, _⟩ | ⟨_, y, hy, _, he⟩
    · exact absurd e5 h0
    · rw [e3] at hy
      injection hy with hy
      injection hy with hy
      subst hy
      rw [he, e4, e1]
      rfl
theorem a_remove (h : AliveAt n0 R fb B pl S w) (hq : Quiet pl) (hB : B < 880) (r : ByteArray) (hr : pathL r.data.toList = true) (hs : r.size ≤ 1000) (hd : isDir S.now r = false) (h0 : S.now r ≠ none) : Calls Tryz.prog 53 #[.pointer (some ⟨fb, 0, none⟩), .string r] w fun e w' => e = .returned (.int .i64 0) ∧ ∃ u, u ≤ S.used ∧ AliveAt n0 R fb (B + 1) pl (Kq.setU (S.enact ⟨2, r, ⟨#[]⟩, pvN S.now r⟩) u) w' := by
  obtain ⟨A, b, h1, h2, h3, h4⟩ := h
  have e2 : S.rmE r = 0 := by
    unfold Fs.rmE
    rw [if_pos hr, if_pos (Option.isSome_iff_ne_none.2 h0), hd]
    rfl
  refine (remove_rep h3 (by omega) (hq.calm _ _) r (by omega)).mono fun e w' ⟨he, hr⟩ => ?_
  rw [e2] at he
  rcases hr with ⟨h0, _⟩ | ⟨_, S', ⟨u, hu, hS'⟩, hR⟩
  · exact absurd e2 h0
  · rw [hS'] at hR
    exact ⟨he, u, hu, aliveAt_of h2 h3.lo h4 hR (by omega)⟩
theorem a_remove_none (h : AliveAt n0 R fb B pl S w) (hq : Quiet pl) (hB : B < 880) (r : ByteArray) (hr : pathL r.data.toList = true) (hs : r.size ≤ 1000) (h0 : S.now r = none) : Calls Tryz.prog 53 #[.pointer (some ⟨fb, 0, none⟩), .string r] w fun e w' => e = .returned (.int .i64 2) ∧ AliveAt n0 R fb B pl S w' := by
  have hh := h
  obtain ⟨A, b, h1, h2, h3, h4⟩ := h
  have e2 : S.rmE r = 2 := by
    unfold Fs.rmE
    rw [if_pos hr, h0]
    rfl
  refine (remove_rep h3 (by omega) (hq.calm _ _) r (by omega)).mono fun e w' ⟨he, hr⟩ => ?_
  rw [e2] at he
  rcases hr with ⟨_, hk⟩ | ⟨h0, _⟩
  · exact ⟨he, hh.below (Kq.kept_bel hk)⟩
  · rw [e2] at h0; cases h0
set_option maxHeartbeats 1600000 in
set_option maxRecDepth 100000 in
theorem clear_some (h : AliveAt n0 R fb B pl S w) (hq : Quiet pl) (hB : B < 870) (r : ByteArray) (hr : pathL r.data.toList = true) (hs : r.size ≤ 1000) (hd : isDir S.now r = false) (h0 : S.now r ≠ none) : Calls Tryz.prog 31 #[.pointer (some ⟨fb, 0, none⟩), .string ⟨#[]⟩, .string r] w fun e w' => e = .returned (.int .i64 0) ∧ ∃ u, u ≤ S.used ∧ AliveAt n0 R fb (B + 2) pl (rmT S r u) w' := by
  have H1 := hideIt (a_remove h hq (by omega) r hr hs hd h0)
  have H2 := hideIt (fun u X (hX : AliveAt n0 R fb (B + 1) pl (Kq.setU (S.enact ⟨2, r, ⟨#[]⟩, pvN S.now r⟩) u) X) => a_root hX hq (by omega))
  clear h hq hB hr hs hd h0
  go_enter Tryz.func31, Tryz.ntmps31
  go_wp2_with (first
    | (go_at_call 53; refine H1.out.mono ?_; rintro e w1 ⟨rfl, u, hu, t1⟩)
    | (go_at_call 43; refine (H2.out _ _ t1).mono ?_; rintro e w2 ⟨rfl, t2⟩))
  go_ret
  exact ⟨rfl, u, hu, t2⟩
set_option maxHeartbeats 1600000 in
set_option maxRecDepth 100000 in
theorem clear_gone (h : AliveAt n0 R fb B pl S w) (hq : Quiet pl) (hB : B < 870) (r : ByteArray) (hr : pathL r.data.toList = true) (hs : r.size ≤ 1000) (h0 : S.now r = none) : Calls Tryz.prog 31 #[.pointer (some ⟨fb, 0, none⟩), .string ⟨#[]⟩, .string r] w fun e w' => e = .returned (.int .i64 0) ∧ AliveAt n0 R fb B pl S w' := by
  have H1 := hideIt (a_remove_none h hq (by omega) r hr hs h0)
  clear h hq hB hr hs h0
  go_enter Tryz.func31, Tryz.ntmps31
  go_wp2_with (first
    | (go_at_call 53; refine H1.out.mono ?_; rintro e w1 ⟨rfl, t1⟩))
  go_ret
  exact ⟨rfl, t1⟩
end
end G
end Go.Proofs.YtknmmlfdlfioiaaGreatDoor.Kf
namespace Go.Proofs.YtknmmlfdlfioiaaGreatDoor.Kf
open Vc Go.RowKit Go.Shelf
namespace G
theorem two_refs : Two Kq.refsP Kq.newP := ⟨Kq.refs_path, Kq.new_path, Kq.dir_refs, Kq.dir_new, Kq.new_ne_refs, by decide, by decide⟩
theorem whole_wh {S : Fs} {o : Option ByteArray} (h : Kq.Whole S o) : Wh Kq.refsP Kq.newP S o := ⟨⟨fun r hr _ => h.names r hr, h.file, .inl (Kq.whole_none h), h.sure, h.acts⟩, Kq.whole_none h⟩
theorem wh_whole {S : Fs} {o : Option ByteArray} (h : Wh Kq.refsP Kq.newP S o) : Kq.Whole S o := ⟨fun q hq => by
  by_cases e : q = Kq.newP
  · rw [e]; exact h.2
  · exact h.1.names q hq e, h.1.file, h.1.sure, h.1.acts⟩
def Fresh0 (n0 fb room : Nat) (A : Nat → Prop) (w : World) : Prop := Kq.Okn n0 w ∧ (∀ g, A g → n0 ≤ g) ∧ (∀ g, A g → g < w.heap.size) ∧ A fb ∧ room ≤ 1000000000000000
def AtR (n0 : Nat) (R : (Nat → Prop) → World → Prop) (fb B room : Nat) (o : Option ByteArray) (U : Nat) (w : World) : Prop := ∃ A b, b ≤ B ∧ Kq.At n0 A b w fb room o U ∧ Rz R A w
def OffR (n0 : Nat) (R : (Nat → Prop) → World → Prop) (fb B room : Nat) (o : Option ByteArray) (U : Nat) (w : World) : Prop := ∃ A b, b ≤ B ∧ Kq.Off n0 A b w fb room o U ∧ Rz R A w
/-- At rest, new. -/
def PreN (n0 : Nat) (R : (Nat → Prop) → World → Prop) (fb room : Nat) (w : World) : Prop := ∃ A, Fresh0 n0 fb room A w ∧ NewAt w fb room ∧ Rz R A w
def PreR (n0 : Nat) (R : (Nat → Prop) → World → Prop) (fb B room : Nat) (o : Option ByteArray) (U s : Nat) (w : World) : Prop := (o = none ∧ s = 0 ∧ PreN n0 R fb room w) ∨ ∃ S, Wh Kq.refsP Kq.newP S o ∧ S.room = room ∧ S.used ≤ (U : Int) ∧ S.steps = s ∧ AliveAt n0 R fb B Kq.P0 S w
/-- Planned. -/
def PlnN (n0 : Nat) (R : (Nat → Prop) → World → Prop) (fb room : Nat) (t k n : Int) (w : World) : Prop := ∃ (A : Nat → Prop) (pl : Value) (g : Nat), Fresh0 n0 fb room A w ∧ NewP w fb room pl ∧ PlanAt w pl g t k n ∧ ¬ A g ∧ Rz R (fun z => A z ∨ z = g) w
def PlnR (n0 : Nat) (R : (Nat → Prop) → World → Prop) (fb B room : Nat) (o : Option ByteArray) (U : Nat) (t k n : Int) (w : World) : Prop := (o = none ∧ 0 ≤ t ∧ PlnN n0 R fb room t k n w) ∨ Ready n0 R fb B (LayQ Kq.refsP Kq.newP room U t o) t k n w
/-- Planned, not struck, fallen for another reason; awake again. -/
def PldN (n0 : Nat) (R : (Nat → Prop) → World → Prop) (fb room : Nat) (t k n : Int) (w : World) : Prop := ∃ (A : Nat → Prop) (pl : Value) (g : Nat), Fresh0 n0 fb room A w ∧ GoneP w fb room pl ∧ PlanAt w pl g t k n ∧ ¬ A g ∧ Rz R (fun z => A z ∨ z = g) w
def PldR (n0 : Nat) (R : (Nat → Prop) → World → Prop) (fb B room : Nat) (o : Option ByteArray) (t k n : Int) (w : World) : Prop := (o = none ∧ PldN n0 R fb room t k n w) ∨ ∃ (pl : Value) (g b : Nat) (A : Nat → Prop) (S : Fs), b ≤ B ∧ PlanAt w pl g t k n ∧ ¬ A g ∧ Kq.Okn n0 w ∧ Dead pl n0 A b w fb S ∧ Wh Kq.refsP Kq.newP S o ∧ S.room = room ∧ Rz R (fun z => A z ∨ z = g) w
def PluR (n0 : Nat) (R : (Nat → Prop) → World → Prop) (fb B room : Nat) (o : Option ByteArray) (t k n : Int) (w : World) : Prop := (o = none ∧ PlnN n0 R fb room t k n w) ∨ Ready n0 R fb B (fun S => Wh Kq.refsP Kq.newP S o ∧ S.room = room) t k n w
/-- Struck; awake again; and what is coming is gone. -/
def StrN (n0 : Nat) (R : (Nat → Prop) → World → Prop) (fb room : Nat) (w : World) : Prop := ∃ (A : Nat → Prop) (pl : Value), Quiet pl ∧ Fresh0 n0 fb room A w ∧ GoneP w fb room pl ∧ Rz R A w
def StrR (n0 : Nat) (R : (Nat → Prop) → World → Prop) (fb B room : Nat) (o : Option ByteArray) (tx : ByteArray) (w : World) : Prop := (o = none ∧ StrN n0 R fb room w) ∨ Fallen n0 R fb B (EitherR Kq.refsP Kq.newP o tx room) w
def AwkN (n0 : Nat) (R : (Nat → Prop) → World → Prop) (fb room : Nat) (w : World) : Prop := ∃ (A : Nat → Prop) (pl : Value), Quiet pl ∧ Fresh0 n0 fb room A w ∧ NewP w fb room pl ∧ Rz R A w
def StuR (n0 : Nat) (R : (Nat → Prop) → World → Prop) (fb B room : Nat) (o : Option ByteArray) (w : World) : Prop := (o = none ∧ AwkN n0 R fb room w) ∨ Alive n0 R fb B (fun S => Stl Kq.refsP Kq.newP S o ∧ S.room = room) w
def AwkR (n0 : Nat) (R : (Nat → Prop) → World → Prop) (fb B room : Nat) (o : Option ByteArray) (w : World) : Prop := (o = none ∧ AwkN n0 R fb room w) ∨ Alive n0 R fb B (fun S => Wh Kq.refsP Kq.newP S o ∧ S.room = room) w
section
variable {n0 : Nat} {R R' : (Nat → Prop) → World → Prop} {w w' : World} {fb B B' b g gx ga c room U s i : Nat} {A : Nat → Prop} {pl u : Value} {S S' : Fs} {Q Q' : Fs → Prop} {t k n : Int} {tx : ByteArray} {o : Option ByteArray}
theorem out_kept (hk : Kept [fb] w w') (h : A fb) : Out A w w' := ⟨hk.os, hk.tape, hk.output, hk.size, fun g x hx hn => hk.fs hx (by simp; intro e; subst e; exact hn h)⟩
theorem Fresh0.out (h : Fresh0 n0 fb room A w) (hO : Out A w w') : Fresh0 n0 fb room A w' := ⟨h.1.step (hO.below h.1.nw h.2.1), h.2.1, fun g hg => Nat.lt_of_lt_of_le (h.2.2.1 g hg) hO.size, h.2.2.2⟩
theorem plan_same (h : PlanAt w pl g t k n) (hs : ∀ x, w.heap[g]? = some x → w'.heap[g]? = some x) : PlanAt w' pl g t k n := by
  obtain ⟨c, cur, e, h1, h2, h3, h4⟩ := h
  exact ⟨c, cur, e, h1, h2, hs _ h3, h4⟩
theorem AtR.below (h : AtR n0 R fb B room o U w) (hb : Below w.heap.size w w') : AtR n0 R fb B room o U w' := by
  obtain ⟨A, b, h1, h2, h3⟩ := h
  exact ⟨A, b, h1, h2.below hb, h3.kept (Kept.of_below hb)⟩
theorem PreN.below (h : PreN n0 R fb room w) (hb : Below w.heap.size w w') : PreN n0 R fb room w' := by
  obtain ⟨A, h1, h2, h3⟩ := h
  have hk := Kept.of_below hb
  exact ⟨A, h1.out (Out.kept hk), hk.fs h2 (by simp), h3.kept hk⟩
theorem PreR.below (h : PreR n0 R fb B room o U s w) (hb : Below w.heap.size w w') : PreR n0 R fb B room o U s w' := by
  rcases h with ⟨h1, h2, h3⟩ | ⟨S, h1, h2, h3, h4, h5⟩
  · exact .inl ⟨h1, h2, h3.below hb⟩
  · exact .inr ⟨S, h1, h2, h3, h4, h5.below hb⟩
theorem AtR.pre (h : AtR n0 R fb B room o U w) : ∃ s, PreR n0 R fb B room o U s w := by
  obtain ⟨A, b, h1, h2, h3⟩ := h
  rcases h2.st with ⟨e, hN⟩ | ⟨S, hR, hW, hr, hu⟩
  · exact ⟨0, .inl ⟨e, rfl, A, ⟨h2.ok, h2.lo, h2.inA, h2.fbA, h2.rr⟩, hN, h3⟩⟩
  · exact ⟨S.steps, .inr ⟨S, whole_wh hW, hr, hu, rfl, A, b, h1, h2.ok, hR, h3⟩⟩
theorem PreR.steps (h : PreR n0 R fb B room o U s w) : Calls Tryz.prog 6 #[.pointer (some ⟨fb, 0, none⟩)] w fun e w' => e = .returned (.int .i64 (s : Int)) ∧ w' = w := by
  rcases h with ⟨h1, h2, A, h3, h4, h5⟩ | ⟨S, h1, h2, h3, h4, h5⟩
  · rw [h2]
    exact steps_at h4
  · have := a_steps h5
    rw [h4] at this
    exact this
theorem PlnN.below (h : PlnN n0 R fb room t k n w) (hb : Below w.heap.size w w') : PlnN n0 R fb room t k n w' := by
  obtain ⟨A, pl, g, h1, h2, h3, h4, h5⟩ := h
  have hk := Kept.of_below hb
  exact ⟨A, pl, g, h1.out (Out.kept hk), hk.fs h2 (by simp), plan_same h3 (fun x hx => hk.fs hx (by simp)), h4, h5.kept hk⟩
theorem PlnR.below (h : PlnR n0 R fb B room o U t k n w) (hb : Below w.heap.size w w') : PlnR n0 R fb B room o U t k n w' := by
  rcases h with ⟨h1, h2, h3⟩ | h
  · exact .inl ⟨h1, h2, h3.below hb⟩
  · exact .inr (h.below hb)
theorem PluR.below (h : PluR n0 R fb B room o t k n w) (hb : Below w.heap.size w w') : PluR n0 R fb B room o t k n w' := by
  rcases h with ⟨h1, h3⟩ | h
  · exact .inl ⟨h1, h3.below hb⟩
  · exact .inr (h.below hb)
/-- A fall is planned: what the call makes. -/
theorem plan_fs {nv sv dv uv : Value} {came used rm steps : Int} {dead : Bool} (hfs : FsAt w fb nv sv dv uv came used rm steps dead pl) (hg : w.heap[ga]? = some (.cells #[.int .i64 t, .int .u64 k, .int .i64 n] 32 (0, 0))) : Calls Tryz.prog 7 #[.pointer (some ⟨fb, 0, none⟩), .slice (some ⟨ga, 0, none⟩) 1 c] w fun e w' => e = .returned (.tuple #[]) ∧ ∃ v g, w.heap.size ≤ g ∧ PlanAt w' v g t k n ∧ Replan w w' fb pl v := plan_one hfs hg
theorem PreR.plan (h : PreR n0 R fb B room o U s w) (hst : (s : Int) ≤ t) (hg : w.heap[ga]? = some (.cells #[.int .i64 t, .int .u64 k, .int .i64 n] 32 (0, 0))) : Calls Tryz.prog 7 #[.pointer (some ⟨fb, 0, none⟩), .slice (some ⟨ga, 0, none⟩) 1 c] w fun e w' => e = .returned (.tuple #[]) ∧ PlnR n0 R fb B room o U t k n w' := by
  rcases h with ⟨h1, h2, A, h3, h4, h5⟩ | ⟨S, h1, h2, h3, h4, h5⟩
  · refine (plan_fs h4 hg).mono fun e w' ⟨he, v, g, g1, g2, hr⟩ => ⟨he, .inl ⟨h1, by omega, A, v, g, ?_, hr.fs _ _ _ _ _ _ _ _ _ h4, g2, fun ha => by have := h3.2.2.1 g ha; omega, ?_⟩⟩
    · exact h3.out (out_kept hr.kept h3.2.2.2.1)
    · exact h5.step (fun z hz => hz.elim .inl (fun e => .inr (e ▸ g1))) (out_kept hr.kept h3.2.2.2.1)
  · exact (a_plan h5 hg).mono fun e w' ⟨he, pl', g, hr⟩ => ⟨he, .inr ⟨pl', g, S, ⟨h1, h2, h3, by omega⟩, hr⟩⟩
/-- Is there power? -/
theorem PlnR.dead (h : PlnR n0 R fb B room o U t k n w) : Calls Tryz.prog 8 #[.pointer (some ⟨fb, 0, none⟩)] w fun e w' => e = .returned (.bool false) ∧ w' = w := by
  rcases h with ⟨_, _, A, pl, g, _, h2, _⟩ | ⟨pl, g, S, _, A, b, _, _, _, _, h4, _⟩
  · exact dead_any h2
  · obtain ⟨b1, b2, b3, done, n1, n2, n3, D1, D2, D3, F, e1, e2, e3, hS, hL⟩ := h4.laid
    exact dead_any hS.fs
theorem StrR.dead (h : StrR n0 R fb B room o tx w) : Calls Tryz.prog 8 #[.pointer (some ⟨fb, 0, none⟩)] w fun e w' => e = .returned (.bool true) ∧ w' = w := by
  rcases h with ⟨_, A, pl, _, _, h2, _⟩ | ⟨pl, A, b, S, _, _, _, h4, _⟩
  · exact dead_any h2
  · obtain ⟨nb, b2, b3, m, D, F, hn, hfs, r⟩ := h4.laid
    exact dead_any hfs
/-- A fall that was not planned. -/
theorem PlnR.crash (h : PlnR n0 R fb B room o U t k n w) (hB : B < 880) (k2 n2 : Int) : Calls Tryz.prog 12 #[.pointer (some ⟨fb, 0, none⟩), .int .u64 k2, .int .i64 n2] w fun e w' => e = .returned (.tuple #[]) ∧ PldR n0 R fb (B + 1) room o t k n w' := by
  rcases h with ⟨h0, _, A, pl, g, h1, h2, h3, h4, h5⟩ | ⟨pl, g, S, ⟨hW, hr, _⟩, A, b, h1, h2, h3, h4, h5, h6⟩
  · refine (crash_fresh_p h2 k2 n2).mono fun e w' ⟨he, hg, hk⟩ => ⟨he, .inl ⟨h0, A, pl, g, ?_⟩⟩
    have hO := out_kept hk h1.2.2.2.1
    exact ⟨h1.out hO, hg, plan_out h3 h4 hO, h4, h5.stepP (fun _ hg => .inl hg) hO⟩
  · refine (crash_rep h5 (by omega) k2 n2).mono fun e w' ⟨he, S', hf, A2, k1, k2, k3⟩ => ⟨he, .inr ⟨pl, g, b + 1, A2, S', by omega, plan_out h1 h2 k3, fun ha => (k1 g ha).elim h2 (fun e => by have := plan_lt h1; omega), h4.step (k3.below h4.nw h5.lo), k2, fell0 hW hf, hf.room.trans hr, h6.stepP k1 k3⟩⟩
theorem StrR.crash (h : StrR n0 R fb B room o tx w) (k2 n2 : Int) : Calls Tryz.prog 12 #[.pointer (some ⟨fb, 0, none⟩), .int .u64 k2, .int .i64 n2] w fun e w' => e = .returned (.tuple #[]) ∧ StrR n0 R fb B room o tx w' := by
  rcases h with ⟨h0, A, pl, hq, h1, h2, h3⟩ | h
  · exact (crash_off h2 k2 n2).mono fun e w' ⟨he, hk⟩ => ⟨he, .inl ⟨h0, A, pl, hq, h1.out (Out.kept hk), hk.fs h2 (by simp), h3.kept hk⟩⟩
  · exact (d_crash h k2 n2).mono fun e w' ⟨he, h⟩ => ⟨he, .inr h⟩
/-- Power again. -/
theorem PldR.up (h : PldR n0 R fb B room o t k n w) : Calls Tryz.prog 13 #[.pointer (some ⟨fb, 0, none⟩)] w fun e w' => e = .returned (.bool true) ∧ PluR n0 R fb B room o t k n w' := by
  rcases h with ⟨h0, A, pl, g, h1, h2, h3, h4, h5⟩ | ⟨pl, g, b, A, S, hb, h1, h2, h3, h4, hW, hr, h6⟩
  · refine (up_any h2).mono fun e w' ⟨he, hg, hk⟩ => ⟨he, .inl ⟨h0, A, pl, g, ?_⟩⟩
    have hO := out_kept hk h1.2.2.2.1
    exact ⟨h1.out hO, hg, plan_out h3 h4 hO, h4, h5.stepP (fun _ hg => .inl hg) hO⟩
  · exact (up_rep h4).mono fun e w' ⟨he, hR⟩ => ⟨he, .inr ⟨pl, g, S, ⟨hW, hr⟩, ready_of h3 h4.lo h6 h1 h2 hR hb⟩⟩
theorem StrR.up (h : StrR n0 R fb B room o tx w) : Calls Tryz.prog 13 #[.pointer (some ⟨fb, 0, none⟩)] w fun e w' => e = .returned (.bool true) ∧ (StuR n0 R fb B room o w' ∨ StuR n0 R fb B room (some tx) w') := by
  rcases h with ⟨h0, A, pl, hq, h1, h2, h3⟩ | h
  · refine (up_any h2).mono fun e w' ⟨he, hg, hk⟩ => ⟨he, .inl (.inl ⟨h0, A, pl, hq, ?_⟩)⟩
    have hO := out_kept hk h1.2.2.2.1
    exact ⟨h1.out hO, hg, h3.step (fun _ hg => .inl hg) hO⟩
  · refine (d_up h).mono fun e w' ⟨he, pl, A, b, S, k1, k2, k3, k4, ⟨k5, kr⟩, k6⟩ => ⟨he, ?_⟩
    rcases k5 with k5 | k5
    · exact .inl (.inr ⟨pl, A, b, S, k1, k2, k3, k4, ⟨k5, kr⟩, k6⟩)
    · exact .inr (.inr ⟨pl, A, b, S, k1, k2, k3, k4, ⟨k5, kr⟩, k6⟩)
/-- None is planned any more: at rest. -/
theorem at_new (hF : Fresh0 n0 fb room A w) (hN : NewAt w fb room) (hR : Rz R A w) : AtR n0 R fb B room none U w := ⟨A, 0, Nat.zero_le _, ⟨hF.1, hF.2.1, hF.2.2.1, hF.2.2.2.1, hF.2.2.2.2, .inl ⟨rfl, hN⟩⟩, hR⟩
theorem at_old (hok : Kq.Okn n0 w) (hR : Rep Kq.P0 n0 A b w fb S) (hW : Wh Kq.refsP Kq.newP S o) (hr : S.room = room) (hb : b ≤ B) (hB : B < 890) (hz : Rz R A w) : AtR n0 R fb B room o 1000000000000000 w :=
  ⟨A, b, hb, ⟨hok, hR.lo, hR.inA, Kq.Rep.fbA hR, hr ▸ hR.rb, .inr ⟨S, hR, wh_whole hW, hr, (hR.lim (by omega)).2.2.2.2.2⟩⟩, hz⟩
theorem PluR.none (h : PluR n0 R fb B room o t k n w) (hB : B < 890) : Calls Tryz.prog 7 #[.pointer (some ⟨fb, 0, none⟩), .slice none 0 0] w fun e w' => e = .returned (.tuple #[]) ∧ AtR n0 R fb B room o 1000000000000000 w' := by
  rcases h with ⟨h0, A, pl, g, h1, h2, h3, h4, h5⟩ | ⟨pl, g, S, ⟨hW, hr⟩, A, b, h1, h2, h3, h4, h5, h6⟩
  · refine (plan_none h2).mono fun e w' ⟨he, hr⟩ => ⟨he, ?_⟩
    have hO := out_kept hr.kept h1.2.2.2.1
    rw [h0]
    exact at_new (h1.out hO) (hr.fs _ _ _ _ _ _ _ _ _ h2) (h5.weak.step (fun _ hg => .inl hg) hO)
  · obtain ⟨b1, b2, b3, done, n1, n2, n3, D1, D2, D3, F, e1, e2, e3, hS, hL⟩ := h5.laid
    refine (plan_none hS.fs).mono fun e w' ⟨he, hrp⟩ => ⟨he, ?_⟩
    obtain ⟨A2, k1, k2, k3⟩ := h5.planned hrp
    exact at_old (h4.step (k3.below h4.nw h5.lo)) k2 hW hr h3 hB (h6.weak.step k1 k3)
theorem AwkR.none (h : AwkR n0 R fb B room o w) (hB : B < 890) : Calls Tryz.prog 7 #[.pointer (some ⟨fb, 0, none⟩), .slice none 0 0] w fun e w' => e = .returned (.tuple #[]) ∧ AtR n0 R fb B room o 1000000000000000 w' := by
  rcases h with ⟨h0, A, pl, hq, h1, h2, h3⟩ | ⟨pl, A, b, S, hq, hb, h4, h5, ⟨hW, hr⟩, h6⟩
  · refine (plan_none h2).mono fun e w' ⟨he, hr⟩ => ⟨he, ?_⟩
    have hO := out_kept hr.kept h1.2.2.2.1
    rw [h0]
    exact at_new (h1.out hO) (hr.fs _ _ _ _ _ _ _ _ _ h2) (h3.step (fun _ hg => .inl hg) hO)
  · obtain ⟨b1, b2, b3, done, n1, n2, n3, D1, D2, D3, F, e1, e2, e3, hS, hL⟩ := h5.laid
    refine (plan_none hS.fs).mono fun e w' ⟨he, hrp⟩ => ⟨he, ?_⟩
    obtain ⟨A2, k1, k2, k3⟩ := h5.planned hrp
    exact at_old (h4.step (k3.below h4.nw h5.lo)) k2 hW hr hb hB (h6.step k1 k3)
/-- At rest: a fall, power, Open. -/
theorem AtR.crash (h : AtR n0 R fb B room o U w) (hB : B < 880) (k2 n2 : Int) : Calls Tryz.prog 12 #[.pointer (some ⟨fb, 0, none⟩), .int .u64 k2, .int .i64 n2] w fun e w' => e = .returned (.tuple #[]) ∧ OffR n0 R fb (B + 1) room o (Kq.sizeO o) w' := by
  obtain ⟨A, b, h1, h2, h3⟩ := h
  exact (Kq.at_crash h2 (by omega) k2 n2).mono fun e w' ⟨he, A2, k1, k2, k3⟩ => ⟨he, A2, b + 1, by omega, k2, h3.step k1 k3⟩
theorem OffR.up (h : OffR n0 R fb B room o U w) : Calls Tryz.prog 13 #[.pointer (some ⟨fb, 0, none⟩)] w fun e w' => e = .returned (.bool true) ∧ AtR n0 R fb B room o U w' := by
  obtain ⟨A, b, h1, h2, h3⟩ := h
  exact (Kq.off_up h2).mono fun e w' ⟨he, A2, k1, k2, k3⟩ => ⟨he, A2, b, h1, k2, h3.step k1 k3⟩
theorem AtR.open (h : AtR n0 R fb B room o U w) (hB : B < 880) (ho : ∀ s, o = some s → s.size ≤ 100000) : Calls Tryz.prog 14 #[.pointer (some ⟨fb, 0, none⟩)] w fun e w' => Kq.RdTo w (Kq.opP o) e w' := by
  obtain ⟨A, b, h1, h2, _⟩ := h
  exact Kq.at_open h2 (by omega) ho
end
end G
end Go.Proofs.YtknmmlfdlfioiaaGreatDoor.Kf
namespace Go.Proofs.YtknmmlfdlfioiaaGreatDoor.Kf
open Vc Go.RowKit Go.Shelf
namespace G
section
variable {n0 : Nat} {R : (Nat → Prop) → World → Prop} {w w' : World} {fb B g room U : Nat} {A : Nat → Prop} {pl : Value} {S : Fs} {t k n : Int} {p q tx : ByteArray} {o : Option ByteArray} {T : World → Prop}
set_option maxHeartbeats 3200000 in
set_option maxRecDepth 100000 in
theorem lay_gen (hW : Wh p q S o) (hr : S.room = room) (hu : S.used ≤ (U : Int)) (hst : (S.steps : Int) ≤ t) (hT : Two p q) (hB : B < 870)
    (HW1 : (S.steps : Int) < t → Calls Tryz.prog 40 #[.pointer (some ⟨fb, 0, none⟩), .string q, .string tx] w fun e w' => e = .returned (.int .i64 0) ∧ ReadyAt n0 R fb (B + 1) pl g t k n (S.fresh q tx) w')
    (HW0 : t = (S.steps : Int) → Calls Tryz.prog 40 #[.pointer (some ⟨fb, 0, none⟩), .string q, .string tx] w fun e w' => e = .returned (.int .i64 7) ∧ T w')
    (hFT : ∀ X, Fallen n0 R fb (B + 4) (EitherR p q o tx room) X → T X) :
    Calls Tryz.prog 22 #[.pointer (some ⟨fb, 0, none⟩), .string ⟨#[]⟩, .string q, .string p, .string tx] w fun e w' => (e = .returned (.int .i64 0) ∧ Ready n0 R fb (B + 4) (LayQ p q room (U + tx.size) t (some tx)) t k n w') ∨ (e = .returned (.int .i64 7) ∧ T w') := by
  have HFAL : Hid (∀ B' X, B' ≤ B + 4 → Fallen n0 R fb B' (EitherR p q o tx S.room) X → T X) := hideIt (fun B' X hB' hX => hFT X (hX.mono hB' (fun _ h => ⟨h.1, h.2.trans hr⟩)))
  have HEND : Hid (∀ X, (S.steps : Int) + 3 < t → (∃ u, u ≤ S.used + (tx.size : Int) ∧ ReadyAt n0 R fb (B + 1 + 1 + 1 + 1) pl g t k n ((mvT S q p tx u).syncDir ⟨#[]⟩) X) → Ready n0 R fb (B + 4) (LayQ p q room (U + tx.size) t (some tx)) t k n X) := hideIt (fun X h3 ⟨u, hu2, hX⟩ => ⟨pl, g, _, ⟨lay_wh hW hT tx u, by rw [(dir_rest _ _).2.1, (mvT_rest S q p tx u).2.1]; exact hr, by rw [(dir_rest _ _).2.2, (mvT_rest S q p tx u).2.2]; omega, by rw [(dir_rest _ _).1, (mvT_rest S q p tx u).1]; omega⟩, hX⟩)
  have hc : t = (S.steps : Int) ∨ t = (S.steps : Int) + 1 ∨ t = (S.steps : Int) + 2 ∨ t = (S.steps : Int) + 3 ∨ (S.steps : Int) + 3 < t := by omega
  rcases hc with hc | hc | hc | hc | hc
  · have H1 := hideIt (HW0 hc)
    clear hc HW1 HW0 hFT hW hr hu hst
    go_enter Tryz.func22, Tryz.ntmps22
    go_wp2_with (first | (go_at_call 40; refine H1.out.mono ?_; rintro e w1 ⟨rfl, t1⟩))
    go_ret
    exact .inr ⟨rfl, t1⟩
  · have H1 := hideIt (HW1 (by omega))
    have H2 := hideIt (fun X (hX : ReadyAt n0 R fb (B + 1) pl g t k n (S.fresh q tx) X) => s_sync hX hW hT (by omega) hc)
    clear hc HW1 HW0 hFT hW hr hu hst
    go_enter Tryz.func22, Tryz.ntmps22
    go_wp2_with (first | (go_at_call 40; refine H1.out.mono ?_; rintro e w1 ⟨rfl, t1⟩) | (go_at_call 41; refine (H2.out _ t1).mono ?_; rintro e w2 ⟨rfl, t2⟩))
    go_ret
    exact .inr ⟨rfl, HFAL.out _ _ (by omega) t2⟩
  · have H1 := hideIt (HW1 (by omega))
    have H2 := hideIt (fun X (hX : ReadyAt n0 R fb (B + 1) pl g t k n (S.fresh q tx) X) => r_sync hX hW hT (by omega) (by omega))
    have H3 := hideIt (fun X (hX : ReadyAt n0 R fb (B + 1 + 1) pl g t k n (syT S q tx) X) => s_move hX hW hT (by omega) hc)
    clear hc HW1 HW0 hFT hW hr hu hst
    go_enter Tryz.func22, Tryz.ntmps22
    go_wp2_with (first | (go_at_call 40; refine H1.out.mono ?_; rintro e w1 ⟨rfl, t1⟩) | (go_at_call 41; refine (H2.out _ t1).mono ?_; rintro e w2 ⟨rfl, t2⟩) | (go_at_call 42; refine (H3.out _ t2).mono ?_; rintro e w3 ⟨rfl, t3⟩))
    go_ret
    exact .inr ⟨rfl, HFAL.out _ _ (by omega) t3⟩
  · have H1 := hideIt (HW1 (by omega))
    have H2 := hideIt (fun X (hX : ReadyAt n0 R fb (B + 1) pl g t k n (S.fresh q tx) X) => r_sync hX hW hT (by omega) (by omega))
    have H3 := hideIt (fun X (hX : ReadyAt n0 R fb (B + 1 + 1) pl g t k n (syT S q tx) X) => r_move hX hW hT (by omega) (by omega))
    have H4 := hideIt (fun u X (hX : ReadyAt n0 R fb (B + 1 + 1 + 1) pl g t k n (mvT S q p tx u) X) => s_dir hX hW hT (by omega) hc)
    clear hc HW1 HW0 hFT hW hr hu hst
    go_enter Tryz.func22, Tryz.ntmps22
    go_wp2_with (first | (go_at_call 40; refine H1.out.mono ?_; rintro e w1 ⟨rfl, t1⟩) | (go_at_call 41; refine (H2.out _ t1).mono ?_; rintro e w2 ⟨rfl, t2⟩) | (go_at_call 42; refine (H3.out _ t2).mono ?_; rintro e w3 ⟨rfl, u, hu, t3⟩) | (go_at_call 43; refine (H4.out _ _ t3).mono ?_; rintro e w4 ⟨rfl, t4⟩))
    go_ret
    exact .inr ⟨rfl, HFAL.out _ _ (by omega) t4⟩
  · have H1 := hideIt (HW1 (by omega))
    have H2 := hideIt (fun X (hX : ReadyAt n0 R fb (B + 1) pl g t k n (S.fresh q tx) X) => r_sync hX hW hT (by omega) (by omega))
    have H3 := hideIt (fun X (hX : ReadyAt n0 R fb (B + 1 + 1) pl g t k n (syT S q tx) X) => r_move hX hW hT (by omega) (by omega))
    have H4 := hideIt (fun u X (hX : ReadyAt n0 R fb (B + 1 + 1 + 1) pl g t k n (mvT S q p tx u) X) => r_dir hX (by omega) hc)
    have HC := hideIt hc
    clear hc HW1 HW0 hFT hW hr hu hst
    go_enter Tryz.func22, Tryz.ntmps22
    go_wp2_with (first | (go_at_call 40; refine H1.out.mono ?_; rintro e w1 ⟨rfl, t1⟩) | (go_at_call 41; refine (H2.out _ t1).mono ?_; rintro e w2 ⟨rfl, t2⟩) | (go_at_call 42; refine (H3.out _ t2).mono ?_; rintro e w3 ⟨rfl, u, hu, t3⟩) | (go_at_call 43; refine (H4.out _ _ t3).mono ?_; rintro e w4 ⟨rfl, t4⟩))
    go_ret
    exact .inl ⟨rfl, HEND.out _ HC.out ⟨u, hu, t4⟩⟩
theorem n_write (h : Fresh0 n0 fb room A w) (hN : NewP w fb room pl) (hp : PlanAt w pl g t k n) (hg : ¬ A g) (hR : Rz R (fun z => A z ∨ z = g) w) (ht : 0 < t) (hq : pathL q.data.toList = true) (hd : dirOf q = ⟨#[]⟩) (hs : q.size ≤ 1000) (htx : tx.size ≤ 100000000) (hroom : tx.size ≤ room) :
    Calls Tryz.prog 40 #[.pointer (some ⟨fb, 0, none⟩), .string q, .string tx] w fun e w' => e = .returned (.int .i64 0) ∧ ReadyAt n0 R fb (B + 1) pl g t k n ((noFs room).fresh q tx) w' := by
  refine (write_fresh_p hN (hp.calm ht) h.1.max h.2.2.2.2 h.1.zm (h.2.1 _ h.2.2.2.1) q tx (by omega) htx hq (by rw [hd]) hroom).mono fun e w' ⟨he, A3, k1, k2, k3⟩ => ⟨he, ?_⟩
  have hO : Out A w w' := ⟨k3.os, k3.tape, k3.output, k3.size, fun g x hx hn => k3.same g x hx (fun e => by subst e; exact hn h.2.2.2.1)⟩
  exact ready_of h.1 h.2.1 hR hp hg ⟨A3, fun z hz => (k1 z hz).elim (fun e => .inl (e ▸ h.2.2.2.1)) .inr, k2, hO⟩ (by omega)
theorem n_strike (h : Fresh0 n0 fb room A w) (hN : NewP w fb room pl) (hp : PlanAt w pl g t k n) (hR : Rz R (fun z => A z ∨ z = g) w) (ht : t = 0) (hq : pathL q.data.toList = true) (hd : dirOf q = ⟨#[]⟩) (hs : q.size ≤ 1000) (htx : tx.size ≤ 100000000) (hroom : tx.size ≤ room) :
    Calls Tryz.prog 40 #[.pointer (some ⟨fb, 0, none⟩), .string q, .string tx] w fun e w' => e = .returned (.int .i64 7) ∧ StrN n0 R fb room w' := by
  refine (write_struck_p hN h.1.max h.2.2.2.2 hp ht q tx (by omega) htx hq (by rw [hd]) hroom).mono fun e w' ⟨he, pl', hq', hg, hk⟩ => ⟨he, A, pl', hq', ?_⟩
  have hO := out_kept hk h.2.2.2.1
  exact ⟨h.out hO, hg, hR.weak.step (fun _ hg => .inl hg) hO⟩
/-- Lay at the law's place. -/
theorem PlnR.lay (h : PlnR n0 R fb B room o U t k n w) (hB : B < 870) (htx : tx.size ≤ 100000000) (hroom : U + tx.size ≤ room) :
    Calls Tryz.prog 22 #[.pointer (some ⟨fb, 0, none⟩), .string ⟨#[]⟩, .string Kq.newP, .string Kq.refsP, .string tx] w fun e w' => (e = .returned (.int .i64 0) ∧ PlnR n0 R fb (B + 4) room (some tx) (U + tx.size) t k n w') ∨ (e = .returned (.int .i64 7) ∧ StrR n0 R fb (B + 4) room o tx w') := by
  rcases h with ⟨h0, ht, A, pl, g, h1, h2, h3, h4, h5⟩ | ⟨pl, g, S, ⟨hW, hr, hu, hst⟩, hR⟩
  · subst h0
    refine (lay_gen (S := noFs room) (U := U) (R := R) (n0 := n0) (B := B) (pl := pl) (g := g) (t := t) (k := k) (n := n) (o := none) (T := StrR n0 R fb (B + 4) room none tx) (wh_no room) rfl (by show (0 : Int) ≤ U; omega) ht two_refs hB (fun h => n_write h1 h2 h3 h4 h5 h two_refs.pq two_refs.dq two_refs.sq htx (by omega)) (fun h => (n_strike h1 h2 h3 h5 h two_refs.pq two_refs.dq two_refs.sq htx (by omega)).mono fun e w' ⟨he, hs⟩ => ⟨he, .inl ⟨rfl, hs⟩⟩) (fun X hX => .inr hX)).mono fun e w' hr => ?_
    rcases hr with ⟨he, hr⟩ | ⟨he, hr⟩
    · exact .inl ⟨he, .inr hr⟩
    · exact .inr ⟨he, hr⟩
  · have hF : ¬ Full S.used S.room (tx.size : Int) := fun hF => by have := hF.1; rw [hr] at this; omega
    refine (lay_gen (T := StrR n0 R fb (B + 4) room o tx) hW hr hu hst two_refs hB (fun h => r_write hR hW two_refs (by omega) htx hF h) (fun h => (s_write hR hW two_refs (by omega) htx hF h).mono fun e w' ⟨he, hs⟩ => ⟨he, .inr (hs.mono (by omega) (fun _ h => ⟨h.1, h.2.trans hr⟩))⟩) (fun X hX => .inr hX)).mono fun e w' hr => ?_
    rcases hr with ⟨he, hr⟩ | ⟨he, hr⟩
    · exact .inl ⟨he, .inr hr⟩
    · exact .inr ⟨he, hr⟩
/-- Its okn. -/
theorem PlnR.ok (h : PlnR n0 R fb B room o U t k n w) : Kq.Okn n0 w := by
  rcases h with ⟨_, _, A, pl, g, h1, _⟩ | ⟨pl, g, S, _, A, b, _, _, _, h4, _⟩
  · exact h1.1
  · exact h4
/-- What Save comes to. -/
def SvTo (n0 : Nat) (R : (Nat → Prop) → World → Prop) (B : Nat) (w : World) (fb room : Nat) (o : Option ByteArray) (U : Nat) (t k n : Int) (hd : ByteArray) (l : List Rf.Rf) (e : Ending) (w' : World) : Prop :=
  (Rf.chkR hd l ≠ 0 ∧ e = .returned (.int .i64 (Rf.chkR hd l)) ∧ Below w.heap.size w w') ∨ (Rf.chkR hd l = 0 ∧ ((e = .returned (.int .i64 0) ∧ PlnR n0 R fb (B + 4) room (some (Kq.frB hd l)) (U + (Kq.frB hd l).size) t k n w') ∨ (e = .returned (.int .i64 7) ∧ StrR n0 R fb (B + 4) room o (Kq.frB hd l) w')))
set_option maxHeartbeats 1600000 in
set_option maxRecDepth 100000 in
theorem PlnR.save (h : PlnR n0 R fb B room o U t k n w) (hb : B < 870) (hd : ByteArray) (v : Value) (l : List Rf.Rf) (hrow : Rf.RRow w v l) (hl : l.length ≤ 100000) (hroom : U + 50000 ≤ room) :
    Calls Tryz.prog 10 #[.pointer (some ⟨fb, 0, none⟩), .agg #[.string hd, v]] w fun e w' => SvTo n0 R B w fb room o U t k n hd l e w' := by
  obtain ⟨va, vc, rfl⟩ := Kq.row_form3 hrow
  generalize hv : (Value.slice va l.length vc) = v at hrow
  obtain ⟨W, hW⟩ : ∃ W, w.alloc (.cells #[.string hd, v] 37) = W := ⟨_, rfl⟩
  have hbl : Below w.heap.size w W := by rw [← hW]; exact (Below.refl _ w).alloc (Nat.le_refl _) _
  have HE := hideIt (Rf.encode_any hd v l W (Rf.VRow.below hrow hbl) hl)
  have HV : Hid (Rf.encV hd l = if Rf.chkR hd l = 0 then Cb.bs (Rf.encL hd l) else ⟨#[]⟩) := hideIt rfl
  have c0 : W.cell? ⟨w.heap.size, 0, none⟩ = some (.string hd) := Vc.cellAt (i := 0) (by rw [← hW]; exact alloc_at rfl) rfl
  have c1 : W.cell? ⟨w.heap.size, 1, none⟩ = some v := Vc.cellAt (i := 1) (by rw [← hW]; exact alloc_at rfl) rfl
  have HB := hideIt hbl
  have HW := hideIt hW
  have HAT := hideIt (fun X (hX : Below W.heap.size W X) => h.below (Rf.below_step hbl (Nat.le_refl _) hX))
  have HK := hideIt (fun X (hX : Below W.heap.size W X) => (h.below (Rf.below_step hbl (Nat.le_refl _) hX)).ok.kat)
  have HTO : Hid (∀ e w', SvTo n0 R B w fb room o U t k n hd l e w' ↔ (Rf.chkR hd l ≠ 0 ∧ e = .returned (.int .i64 (Rf.chkR hd l)) ∧ Below w.heap.size w w') ∨ (Rf.chkR hd l = 0 ∧ ((e = .returned (.int .i64 0) ∧ PlnR n0 R fb (B + 4) room (some (Kq.frB hd l)) (U + (Kq.frB hd l).size) t k n w') ∨ (e = .returned (.int .i64 7) ∧ StrR n0 R fb (B + 4) room o (Kq.frB hd l) w')))) := hideIt (fun _ _ => Iff.rfl)
  subst hv
  by_cases hz : Rf.chkR hd l = 0
  · have hsz := Kq.frB_size hz
    have hen := Kq.enc_le hz
    have HFR : Hid (∀ X, Below W.heap.size W X → Calls Tryz.prog 23 #[.string (Cb.bs (Rf.encL hd l))] X fun e w' => e = .returned (.string (Kq.frB hd l)) ∧ Below W.heap.size W w') := hideIt (fun X hX => by
      have := Cb.frame_any (Cb.bs (Rf.encL hd l)) X (HK.out X hX) (by rw [Cb.bs_size]; omega)
      rw [Cb.bs_list] at this
      exact this.mono fun e w' ⟨he, hb'⟩ => ⟨he, Rf.below_step hX (Nat.le_refl _) hb'⟩)
    have HLY : Hid (∀ X, Below W.heap.size W X → Calls Tryz.prog 22 #[.pointer (some ⟨fb, 0, none⟩), .string ⟨#[]⟩, .string Kq.newP, .string Kq.refsP, .string (Kq.frB hd l)] X fun e w' => (e = .returned (.int .i64 0) ∧ PlnR n0 R fb (B + 4) room (some (Kq.frB hd l)) (U + (Kq.frB hd l).size) t k n w') ∨ (e = .returned (.int .i64 7) ∧ StrR n0 R fb (B + 4) room o (Kq.frB hd l) w')) := hideIt (fun X hX => (HAT.out X hX).lay hb (by omega) (by omega))
    have en : Kq.newP = ⟨#[114, 101, 102, 115, 46, 110, 101, 119]⟩ := rfl
    have er : Kq.refsP = ⟨#[114, 101, 102, 115]⟩ := rfl
    rw [en, er] at HLY
    rw [HV.out, if_pos hz, hz] at HE
    have HZ := hideIt hz
    clear hrow hbl hW h hsz hen hroom hz
    go_enter Tryz.func10, Tryz.ntmps10
    go_wp2_with (first
      | (go_at_call 21; (try rw [HW.out]); refine HE.out.mono ?_; rintro e w1 ⟨rfl, hb1⟩; have HB1 := hideIt hb1; clear hb1)
      | (go_at_call 23; refine (HFR.out _ HB1.out).mono ?_; rintro e w2 ⟨rfl, hb2⟩; have HB2 := hideIt hb2; clear hb2)
      | (go_at_call 22; refine (HLY.out _ HB2.out).mono ?_; rintro e w3 (⟨rfl, ht3⟩ | ⟨rfl, ht4⟩)))
    all_goals go_ret
    · exact (HTO.out _ _).2 (.inr ⟨HZ.out, .inl ⟨rfl, ht3⟩⟩)
    · exact (HTO.out _ _).2 (.inr ⟨HZ.out, .inr ⟨rfl, ht4⟩⟩)
  · rw [HV.out, if_neg hz] at HE
    obtain ⟨Z, hZ⟩ : ∃ Z, Rf.chkR hd l = Z := ⟨_, rfl⟩
    rw [hZ] at HE hz
    have z2 : (Z == 0) = false := by simpa using hz
    have z3 : (Z != 0) = true := by simpa using hz
    have HZ := hideIt hZ
    have HNZ := hideIt hz
    clear hrow hbl hW h hroom hZ
    go_enter Tryz.func10, Tryz.ntmps10
    go_wp2_with (first
      | (go_at_call 21; (try rw [HW.out]); refine HE.out.mono ?_; rintro e w1 ⟨rfl, hb1⟩; have HB1 := hideIt hb1; clear hb1))
    go_ret
    exact (HTO.out _ _).2 (.inl ⟨by rw [HZ.out]; exact HNZ.out, by rw [HZ.out]; rfl, Rf.below_step HB.out (Nat.le_refl _) HB1.out⟩)
end
end G
end Go.Proofs.YtknmmlfdlfioiaaGreatDoor.Kf
namespace Go.Proofs.YtknmmlfdlfioiaaGreatDoor.Kf
open Vc Go.RowKit Go.Shelf
namespace G
open Kq
/-- Refs, or why there are none. -/
def Op5 (e : Ending) : Prop := ∃ (hd : ByteArray) (a : Option Addr) (n c : Nat) (z : Int), e = .returned (.tuple #[.agg #[.string hd, .slice a n c], .int .i64 z])
theorem op5_of {e : Ending} {w : World} {hd : ByteArray} {v : Value} {z : Int} {l : List Rf.Rf} (he : e = .returned (.tuple #[.agg #[.string hd, v], .int .i64 z])) (hr : Rf.RRow w v l) : Op5 e := by
  obtain ⟨a, c, rfl⟩ := row_form3 hr
  exact ⟨hd, a, _, c, z, he⟩
section
variable {n0 : Nat} {R : (Nat → Prop) → World → Prop} {w w' : World} {fb B b g room U : Nat} {A : Nat → Prop} {pl : Value} {S : Fs} {t k n : Int} {tx : ByteArray} {o : Option ByteArray}
set_option maxHeartbeats 1600000 in
set_option maxRecDepth 100000 in
theorem open_calm (hok : Okn n0 w) (ho : ∀ s, o = some s → s.size ≤ 100000) (HCL : ∀ X, Below w.heap.size w X → Calls Tryz.prog 31 #[.pointer (some ⟨fb, 0, none⟩), .string ⟨#[]⟩, .string newP] X fun e w' => e = .returned (.int .i64 0) ∧ Kept [] X w') (HRD : ∀ X, Below w.heap.size w X → Calls Tryz.prog 32 #[.pointer (some ⟨fb, 0, none⟩), .string refsP] X fun e w' => e = .returned (readV o) ∧ Kept [] X w') :
    Calls Tryz.prog 14 #[.pointer (some ⟨fb, 0, none⟩)] w fun e w' => RdTo w (opP o) e w' := by
  obtain ⟨W, hW⟩ : ∃ W, w.alloc (.cells #[.string ⟨#[]⟩, .slice none 0 0] 37) = W := ⟨_, rfl⟩
  have hbl : Below w.heap.size w W := by rw [← hW]; exact (Below.refl _ w).alloc (Nat.le_refl _) _
  have hsz : W.heap.size = w.heap.size + 1 := by rw [← hW]; simp
  have hres : W.heap[w.heap.size]? = some (.cells #[.string ⟨#[]⟩, .slice none 0 0] 37 (0, 0)) := by rw [← hW]; exact alloc_at rfl
  have HF : Hid (∀ w', Below W.heap.size W w' → w'.heap[w.heap.size]? = some (.cells #[.string ⟨#[]⟩, .slice none 0 0] 37 (0, 0))) := hideIt (fun w' hb' => by rw [hb'.block _ (by omega)]; exact hres)
  have HC : Hid (Calls Tryz.prog 31 #[.pointer (some ⟨fb, 0, none⟩), .string ⟨#[]⟩, .string newP] W fun e w' => e = .returned (.int .i64 0) ∧ Below W.heap.size W w') := hideIt ((HCL W hbl).mono fun e w' ⟨he, hk⟩ => ⟨he, kept_bel hk⟩)
  have HR : Hid (∀ X, Below W.heap.size W X → Calls Tryz.prog 32 #[.pointer (some ⟨fb, 0, none⟩), .string refsP] X fun e w' => e = .returned (readV o) ∧ Below W.heap.size W w') := hideIt (fun X hX => (HRD X (Rf.below_step hbl (Nat.le_refl _) hX)).mono fun e w' ⟨he, hk⟩ => ⟨he, Rf.below_step hX (Nat.le_refl _) (kept_bel hk)⟩)
  have HB := hideIt hbl
  have HW := hideIt hW
  have HOK : Hid (∀ X, Below W.heap.size W X → Okn n0 X) := hideIt (fun X hX => hok.step ((Rf.below_step hbl (Nat.le_refl _) hX).mono hok.nw))
  have en : newP = ⟨#[114, 101, 102, 115, 46, 110, 101, 119]⟩ := rfl
  have er : refsP = ⟨#[114, 101, 102, 115]⟩ := rfl
  rw [en] at HC
  rw [er] at HR
  clear hbl hW hres HCL HRD hok
  cases o with
  | none =>
    have hR : readV none = .tuple #[.string ⟨#[]⟩, .int .i64 2] := rfl
    rw [hR] at HR
    go_enter Tryz.func14, Tryz.ntmps14
    go_wp2_with (first
      | (go_at_call 31; rw [HW.out]; refine HC.out.mono ?_; rintro e w1 ⟨rfl, hb1⟩; have HB1 := hideIt hb1; clear hb1)
      | (go_at_call 32; refine (HR.out _ HB1.out).mono ?_; rintro e w2 ⟨rfl, hb2⟩; have p1 := HF.out w2 hb2; have q0 := Vc.cellAt (i := 0) p1 rfl; have q1 := Vc.cellAt (i := 1) p1 rfl; have z0 := thawAt p1 0; have z1 := thawAt p1 1; have P1 := hideIt p1; have HB2 := hideIt hb2; clear hb2 p1))
    refine bodyPost_ret (v := .tuple #[.agg #[.string mainP, .slice none 0 0], .int .i64 0]) ?_ rfl ?_
    · rw [Rf.results_c2 rfl]
      go_simp
      try rfl
    · exact rd_store (H := mainL) (L := []) (Rf.below_step HB.out (Nat.le_refl _) HB2.out) P1.out (Rf.VRow.of_row (Rf.own_nil _ 0 65 2))
  | some s =>
    have hR : readV (some s) = .tuple #[.string s, .int .i64 0] := rfl
    rw [hR] at HR
    have HD : Hid (∀ X, Below W.heap.size W X → Calls Tryz.prog 33 #[.string s] X fun e w' => ∃ a c, e = .returned (.tuple #[.agg #[.string (rdH (rdP s)), .slice a (rdL (rdP s)).length c], .int .i64 (rdE (rdP s))]) ∧ Rf.RRow w' (.slice a (rdL (rdP s)).length c) (rdL (rdP s)) ∧ Below W.heap.size W w') := hideIt (fun X hX => (read_any s X (ho s rfl) (HOK.out X hX).kat (HOK.out X hX).max).mono fun e w' ⟨v, he, hr, hb'⟩ => by
      obtain ⟨a, c, rfl⟩ := row_form3 hr
      exact ⟨a, c, he, hr, Rf.below_step hX (Nat.le_refl _) hb'⟩)
    have hO : opP (some s) = rdP s := rfl
    rw [hO]
    obtain ⟨RR, hRR⟩ : ∃ R, rdP s = R := ⟨_, rfl⟩
    rw [hRR] at HD ⊢
    clear hRR hO hR ho HOK
    obtain ⟨TH, hTH⟩ : ∃ X, rdH RR = X := ⟨_, rfl⟩
    obtain ⟨E, hE⟩ : ∃ X, rdE RR = X := ⟨_, rfl⟩
    rw [hTH, hE] at HD
    have HTH := hideIt hTH
    have HEE := hideIt hE
    clear hTH hE
    go_enter Tryz.func14, Tryz.ntmps14
    go_wp2_with (first
      | (go_at_call 31; rw [HW.out]; refine HC.out.mono ?_; rintro e w1 ⟨rfl, hb1⟩; have HB1 := hideIt hb1; clear hb1)
      | (go_at_call 32; refine (HR.out _ HB1.out).mono ?_; rintro e w2 ⟨rfl, hb2⟩; have HB2 := hideIt hb2; clear hb2)
      | (go_at_call 33; refine (HD.out _ HB2.out).mono ?_; rintro e w3 ⟨sa, sc, rfl, hrow, hb3⟩; have p1 := HF.out w3 hb3; have q0 := Vc.cellAt (i := 0) p1 rfl; have q1 := Vc.cellAt (i := 1) p1 rfl; have z0 := thawAt p1 0; have z1 := thawAt p1 1; have P1 := hideIt p1; have P3 := hideIt hrow; have HB3 := hideIt hb3; clear hb3 p1 hrow))
    refine bodyPost_ret (v := .tuple #[.agg #[.string TH, .slice sa (rdL RR).length sc], .int .i64 E]) ?_ rfl ?_
    · rw [Rf.results_c2 rfl]
      go_simp
    · refine ⟨.slice sa (rdL RR).length sc, by rw [HTH.out, HEE.out], rrow_set (rrow_set P3.out P1.out 0 _) (x := TH) (a := none) (n := 0) (c := 0) (t := 37) (fl := (0, 0)) ?_ 1 _, ((Rf.below_step HB.out (Nat.le_refl _) HB3.out).setCell (p := ⟨w.heap.size, 0, none⟩) (Nat.le_refl _) _).setCell (p := ⟨w.heap.size, 1, none⟩) (Nat.le_refl _) _⟩
      rw [heap_setCell_same w3 _ 0 _ 37 _ P1.out]
      rfl
set_option maxHeartbeats 800000 in
set_option maxRecDepth 100000 in
theorem clear_calm (HR : Calls Tryz.prog 53 #[.pointer (some ⟨fb, 0, none⟩), .string newP] w fun e w' => e = .returned (.int .i64 2) ∧ Kept [] w w') : Calls Tryz.prog 31 #[.pointer (some ⟨fb, 0, none⟩), .string ⟨#[]⟩, .string newP] w fun e w' => e = .returned (.int .i64 0) ∧ Kept [] w w' := by
  have HR := hideIt HR
  generalize newP = np at HR ⊢
  go_enter Tryz.func31, Tryz.ntmps31
  go_wp2_with (first | (go_at_call 53; refine HR.out.mono ?_; rintro e w1 ⟨rfl, hk1⟩))
  go_ret
  exact ⟨rfl, hk1⟩
theorem read_rp (hR : Rep pl n0 A b w fb S) (hW : Wh refsP newP S o) : Calls Tryz.prog 32 #[.pointer (some ⟨fb, 0, none⟩), .string refsP] w fun e w' => e = .returned (readV o) ∧ Kept [] w w' := by
  refine (hR.read refsP (by rw [refs_size]; decide)).mono fun e w' ⟨hk, hr⟩ => ⟨?_, hk⟩
  rcases hW.1.file with ⟨e1, e2⟩ | ⟨s, x, e1, e2, e3, e4⟩
  · have e5 : S.syE refsP = 2 := by
      unfold Fs.syE
      rw [if_pos refs_path, e2]
      rfl
    rcases hr with ⟨_, he⟩ | ⟨h0, _⟩
    · rw [he, e5, e1]; rfl
    · rw [e5] at h0; cases h0
  · have e5 : S.syE refsP = 0 := by
      unfold Fs.syE pvN
      rw [if_pos refs_path, e3]
      rfl
    rcases hr with ⟨h0, _⟩ | ⟨_, y, hy, _, he⟩
    · exact absurd e5 h0
    · rw [e3] at hy
      injection hy with hy
      injection hy with hy
      subst hy
      rw [he, e4, e1]
      rfl
/-- New, or nothing is coming: Open changes nothing. -/
theorem open_new (hok : Okn n0 w) (hN : NewP w fb room pl) : Calls Tryz.prog 14 #[.pointer (some ⟨fb, 0, none⟩)] w fun e w' => RdTo w (opP none) e w' :=
  open_calm (n0 := n0) hok (fun s hs => by cases hs)
    (fun X hX => clear_calm (remove_p ((Kept.of_below hX).fs hN (by simp)) (hok.step (hX.mono hok.nw)).max newP (by rw [new_size]; decide) new_path))
    (fun X hX => read_p ((Kept.of_below hX).fs hN (by simp)) (hok.step (hX.mono hok.nw)).max refsP (by rw [refs_size]; decide) refs_path)
theorem open_rep (hok : Okn n0 w) (hR : Rep pl n0 A b w fb S) (hW : Wh refsP newP S o) (ho : ∀ s, o = some s → s.size ≤ 100000) : Calls Tryz.prog 14 #[.pointer (some ⟨fb, 0, none⟩)] w fun e w' => RdTo w (opP o) e w' :=
  open_calm (n0 := n0) hok ho
    (fun X hX => clear_calm ((hR.keep (Kept.of_below hX)).remove_none newP (by rw [new_size]; decide) new_path hW.2))
    (fun X hX => read_rp (hR.keep (Kept.of_below hX)) hW)
set_option maxRecDepth 100000 in
theorem plu_open (h : PluR n0 R fb B room o t k n w) (ho : ∀ s, o = some s → s.size ≤ 100000) : Calls Tryz.prog 14 #[.pointer (some ⟨fb, 0, none⟩)] w fun e w' => Op5 e ∧ PluR n0 R fb B room o t k n w' := by
  have hh := h
  rcases h with ⟨h0, A, pl, g, h1, h2, _⟩ | ⟨pl, g, S, ⟨hW, hr⟩, A, b, _, _, _, h4, h5, _⟩
  · subst h0
    exact (open_new h1.1 h2).mono fun e w' ⟨v, he, hr, hb⟩ => ⟨op5_of he hr, hh.below hb⟩
  · exact (open_rep h4 h5 hW ho).mono fun e w' ⟨v, he, hr, hb⟩ => ⟨op5_of he hr, hh.below hb⟩
theorem AwkR.below (h : AwkR n0 R fb B room o w) (hb : Below w.heap.size w w') : AwkR n0 R fb B room o w' := by
  rcases h with ⟨h0, A, pl, hq, h1, h2, h3⟩ | h
  · have hk := Kept.of_below hb
    exact .inl ⟨h0, A, pl, hq, h1.out (Out.kept hk), hk.fs h2 (by simp), h3.kept hk⟩
  · exact .inr (h.below hb)
theorem AwkR.mono {B' : Nat} (h : AwkR n0 R fb B room o w) (hB : B ≤ B') : AwkR n0 R fb B' room o w := h.imp_right (fun h => h.mono hB (fun _ h => h))
/-- What stands from here on: of these blocks, or newer. -/
def Frm0 (A0 : Nat → Prop) (w : World) (m : Nat) : (Nat → Prop) → World → Prop := fun A X => (∀ g, A g → A0 g ∨ m ≤ g) ∧ Out A0 w X ∧ m ≤ X.heap.size
theorem frm0_stab {A0 : Nat → Prop} {w : World} {m : Nat} (hm : w.heap.size ≤ m) : Stab (Frm0 A0 w m) := fun _ _ _ _ ⟨h1, h2, h3⟩ hA hO =>
  ⟨fun g hg => (hA g hg).elim (h1 g) (fun e => .inr (Nat.le_trans h3 e)), h2.trans ⟨hO.os, hO.tape, hO.output, hO.size, fun g x hx hn => hO.same g x hx hn⟩ (fun g hg => (h1 g hg).elim .inl (fun e => .inr (Nat.le_trans hm e))), Nat.le_trans h3 hO.size⟩
theorem fin0 (h : Rz R A w) (hinA : ∀ g, A g → g < w.heap.size) (hn : n0 ≤ w.heap.size) {X : World} (hX : AliveAt n0 (Frm0 A w (w.heap.size + 1)) fb B pl S X) (x y : Value) :
    AliveAt n0 R fb B pl S ((X.setCell ⟨w.heap.size, 0, none⟩ x).setCell ⟨w.heap.size, 1, none⟩ y) := by
  obtain ⟨A2, b, h1, h2, h3, _, hA2, hO, hm⟩ := hX
  have hr : ¬ A2 w.heap.size := fun ha => (hA2 _ ha).elim (fun e => by have := hinA _ e; omega) (fun e => by omega)
  have hsz : ((X.setCell ⟨w.heap.size, 0, none⟩ x).setCell ⟨w.heap.size, 1, none⟩ y).heap.size = X.heap.size := by simp [World.setCell]
  have hb : Below n0 X ((X.setCell ⟨w.heap.size, 0, none⟩ x).setCell ⟨w.heap.size, 1, none⟩ y) := ((Below.refl n0 X).setCell (p := ⟨w.heap.size, 0, none⟩) hn _).setCell (p := ⟨w.heap.size, 1, none⟩) hn _
  have hok := h2.step hb
  have hs : ∀ g, g ≠ w.heap.size → ((X.setCell ⟨w.heap.size, 0, none⟩ x).setCell ⟨w.heap.size, 1, none⟩ y).heap[g]? = X.heap[g]? := fun g hg => by
    rw [heap_setCell_other _ ⟨w.heap.size, 1, none⟩ _ _ (by first | exact hg | exact Ne.symm hg), heap_setCell_other _ ⟨w.heap.size, 0, none⟩ _ _ (by first | exact hg | exact Ne.symm hg)]
  have hO2 : Out A w ((X.setCell ⟨w.heap.size, 0, none⟩ x).setCell ⟨w.heap.size, 1, none⟩ y) := ⟨hb.os.trans hO.os, hb.tape.trans hO.tape, hb.output.trans hO.output, by rw [hsz]; exact hO.size, fun g z hz hnA => by
    have hlt := Vc.block_lt hz
    rw [hs g (by omega)]
    exact hO.same g z hz hnA⟩
  exact ⟨A2, b, h1, hok, h3.stay (by rw [hsz]; exact Nat.le_refl _) hok.max (fun g z hz ha => by rw [hs g (fun e => hr (e ▸ ha))]; exact hz), h.step (fun g hg => (hA2 g hg).imp_right (fun e => by omega)) hO2⟩
set_option maxHeartbeats 1600000 in
set_option maxRecDepth 100000 in
theorem open_goes (hok : Okn n0 w) (hbB : b ≤ B) (hR : Rep pl n0 A b w fb S) (hz : Rz R A w) (hq : Quiet pl) (hB : B < 860) (hS : Stl refsP newP S o) (h0 : S.now newP ≠ none) (ho : ∀ s, o = some s → s.size ≤ 100000) :
    Calls Tryz.prog 14 #[.pointer (some ⟨fb, 0, none⟩)] w fun e w' => Op5 e ∧ ∃ u, AliveAt n0 R fb (B + 2) pl (rmT S newP u) w' := by
  obtain ⟨W, hW⟩ : ∃ W, w.alloc (.cells #[.string ⟨#[]⟩, .slice none 0 0] 37) = W := ⟨_, rfl⟩
  have hbl : Below w.heap.size w W := by rw [← hW]; exact (Below.refl _ w).alloc (Nat.le_refl _) _
  have hsz : W.heap.size = w.heap.size + 1 := by rw [← hW]; simp
  have hres : W.heap[w.heap.size]? = some (.cells #[.string ⟨#[]⟩, .slice none 0 0] 37 (0, 0)) := by rw [← hW]; exact alloc_at rfl
  have hA : AliveAt n0 (Frm0 A w (w.heap.size + 1)) fb B pl S W := ⟨A, b, hbB, hok.step (hbl.mono hok.nw), hR.keep (Kept.of_below hbl), frm0_stab (by omega), fun g hg => .inl hg, Out.kept (Kept.of_below hbl), by omega⟩
  have HFIN := hideIt (fun (u : Int) X (hX : AliveAt n0 (Frm0 A w (w.heap.size + 1)) fb (B + 2) pl (rmT S newP u) X) x y => fin0 hz hR.inA hok.nw hX x y)
  have HF : Hid (∀ u X, AliveAt n0 (Frm0 A w (w.heap.size + 1)) fb (B + 2) pl (rmT S newP u) X → X.heap[w.heap.size]? = some (.cells #[.string ⟨#[]⟩, .slice none 0 0] 37 (0, 0)) → ∀ Y, Below X.heap.size X Y → AliveAt n0 (Frm0 A w (w.heap.size + 1)) fb (B + 2) pl (rmT S newP u) Y ∧ Y.heap[w.heap.size]? = some (.cells #[.string ⟨#[]⟩, .slice none 0 0] 37 (0, 0))) := hideIt (fun u X hX hx Y hY => ⟨hX.below hY, (hY.block _ (Vc.block_lt hx)).trans hx⟩)
  have HC : Hid (Calls Tryz.prog 31 #[.pointer (some ⟨fb, 0, none⟩), .string ⟨#[]⟩, .string newP] W fun e w' => e = .returned (.int .i64 0) ∧ ∃ u : Int, AliveAt n0 (Frm0 A w (w.heap.size + 1)) fb (B + 2) pl (rmT S newP u) w' ∧ w'.heap[w.heap.size]? = some (.cells #[.string ⟨#[]⟩, .slice none 0 0] 37 (0, 0))) := hideIt (by
    obtain ⟨A9, b9, k1, k2, k3, k4⟩ := id hA
    have hr9 : ¬ A w.heap.size := fun ha => by have := hR.inA _ ha; omega
    have hw2 : AliveAt n0 (Frm0 A w (w.heap.size + 1)) fb B pl S W := hA
    have hw3 : AliveAt n0 (fun A2 X => Frm0 A w (w.heap.size + 1) A2 X ∧ Frm0 A W W.heap.size A2 X) fb B pl S W := ⟨A, b, hbB, hok.step (hbl.mono hok.nw), hR.keep (Kept.of_below hbl), fun A1 A2 X Y ⟨p1, p2⟩ hA hO => ⟨frm0_stab (by omega) A1 A2 X Y p1 hA hO, frm0_stab (Nat.le_refl _) A1 A2 X Y p2 hA hO⟩, ⟨fun g hg => .inl hg, Out.kept (Kept.of_below hbl), by omega⟩, fun g hg => .inl hg, Out.kept (Kept.refl _ _), Nat.le_refl _⟩
    refine (clear_some hw3 hq (by omega) newP new_path two_refs.sq (hS.dirq new_path) h0).mono fun e w' ⟨he, u, _, A2, b2, m1, m2, m3, m4, m5, m6⟩ => ⟨he, u, ⟨A2, b2, m1, m2, m3, frm0_stab (by omega), m5⟩, m6.2.1.same _ _ hres hr9⟩)
  have HR : Hid (∀ u X, AliveAt n0 (Frm0 A w (w.heap.size + 1)) fb (B + 2) pl (rmT S newP u) X → Calls Tryz.prog 32 #[.pointer (some ⟨fb, 0, none⟩), .string refsP] X fun e w' => e = .returned (readV o) ∧ Below X.heap.size X w') := hideIt (fun u X ⟨A2, b2, m1, m2, m3, m4⟩ => (read_rp m3 (rm_q hS two_refs h0 u)).mono fun e w' ⟨he, hk⟩ => ⟨he, kept_bel hk⟩)
  have HB := hideIt hbl
  have HW := hideIt hW
  have HOK : Hid (∀ u X, AliveAt n0 (Frm0 A w (w.heap.size + 1)) fb (B + 2) pl (rmT S newP u) X → Okn n0 X) := hideIt (fun u X ⟨_, _, _, m2, _⟩ => m2)
  have en : newP = ⟨#[114, 101, 102, 115, 46, 110, 101, 119]⟩ := rfl
  have er : refsP = ⟨#[114, 101, 102, 115]⟩ := rfl
  rw [en] at HC
  rw [er] at HR
  clear hbl hW hres hA hok hbB hR hz hq hB hS h0
  cases o with
  | none =>
    have hR : readV none = .tuple #[.string ⟨#[]⟩, .int .i64 2] := rfl
    rw [hR] at HR
    go_enter Tryz.func14, Tryz.ntmps14
    go_wp2_with (first
      | (go_at_call 31; rw [HW.out]; refine HC.out.mono ?_; rintro e w1 ⟨rfl, u, s1, r1⟩; have S1 := hideIt s1; have R1 := hideIt r1; clear s1 r1)
      | (go_at_call 32; refine (HR.out _ _ S1.out).mono ?_; rintro e w2 ⟨rfl, hb2⟩; obtain ⟨s2, p1⟩ := HF.out _ _ S1.out R1.out w2 hb2; have q0 := Vc.cellAt (i := 0) p1 rfl; have q1 := Vc.cellAt (i := 1) p1 rfl; have z0 := thawAt p1 0; have z1 := thawAt p1 1; have P1 := hideIt p1; have S2 := hideIt s2; clear hb2 p1 s2))
    refine bodyPost_ret (v := .tuple #[.agg #[.string mainP, .slice none 0 0], .int .i64 0]) ?_ rfl ?_
    · rw [Rf.results_c2 rfl]
      go_simp
      try rfl
    · exact ⟨⟨_, _, _, _, _, rfl⟩, u, HFIN.out _ _ S2.out _ _⟩
  | some s =>
    have hR : readV (some s) = .tuple #[.string s, .int .i64 0] := rfl
    rw [hR] at HR
    have HD : Hid (∀ u X, AliveAt n0 (Frm0 A w (w.heap.size + 1)) fb (B + 2) pl (rmT S newP u) X → Calls Tryz.prog 33 #[.string s] X fun e w' => ∃ a c, e = .returned (.tuple #[.agg #[.string (rdH (rdP s)), .slice a (rdL (rdP s)).length c], .int .i64 (rdE (rdP s))]) ∧ Rf.RRow w' (.slice a (rdL (rdP s)).length c) (rdL (rdP s)) ∧ Below X.heap.size X w') := hideIt (fun u X hX => (read_any s X (ho s rfl) (HOK.out u X hX).kat (HOK.out u X hX).max).mono fun e w' ⟨v, he, hr, hb'⟩ => by
      obtain ⟨a, c, rfl⟩ := row_form3 hr
      exact ⟨a, c, he, hr, hb'⟩)
    obtain ⟨RR, hRR⟩ : ∃ R, rdP s = R := ⟨_, rfl⟩
    rw [hRR] at HD
    clear hRR hR ho HOK
    obtain ⟨TH, hTH⟩ : ∃ X, rdH RR = X := ⟨_, rfl⟩
    obtain ⟨E, hE⟩ : ∃ X, rdE RR = X := ⟨_, rfl⟩
    rw [hTH, hE] at HD
    have HTH := hideIt hTH
    have HEE := hideIt hE
    clear hTH hE
    go_enter Tryz.func14, Tryz.ntmps14
    go_wp2_with (first
      | (go_at_call 31; rw [HW.out]; refine HC.out.mono ?_; rintro e w1 ⟨rfl, u, s1, r1⟩; have S1 := hideIt s1; have R1 := hideIt r1; clear s1 r1)
      | (go_at_call 32; refine (HR.out _ _ S1.out).mono ?_; rintro e w2 ⟨rfl, hb2⟩; obtain ⟨s2, r2⟩ := HF.out _ _ S1.out R1.out w2 hb2; have S2 := hideIt s2; have R2 := hideIt r2; clear hb2 s2 r2)
      | (go_at_call 33; refine (HD.out _ _ S2.out).mono ?_; rintro e w3 ⟨sa, sc, rfl, hrow, hb3⟩; obtain ⟨s3, p1⟩ := HF.out _ _ S2.out R2.out w3 hb3; have q0 := Vc.cellAt (i := 0) p1 rfl; have q1 := Vc.cellAt (i := 1) p1 rfl; have z0 := thawAt p1 0; have z1 := thawAt p1 1; have P1 := hideIt p1; have S3 := hideIt s3; clear hb3 p1 hrow s3))
    refine bodyPost_ret (v := .tuple #[.agg #[.string TH, .slice sa (rdL RR).length sc], .int .i64 E]) ?_ rfl ?_
    · rw [Rf.results_c2 rfl]
      go_simp
    · exact ⟨⟨_, _, _, _, _, rfl⟩, u, HFIN.out _ _ S3.out _ _⟩
set_option maxRecDepth 100000 in
/-- Open behind a fall that struck. -/
theorem stu_open (h : StuR n0 R fb B room o w) (hB : B < 860) (ho : ∀ s, o = some s → s.size ≤ 100000) : Calls Tryz.prog 14 #[.pointer (some ⟨fb, 0, none⟩)] w fun e w' => Op5 e ∧ AwkR n0 R fb (B + 2) room o w' := by
  rcases h with ⟨h0, A, pl, hq, h1, h2, h3⟩ | ⟨pl, A, b, S, hq, hb, hok, hR, ⟨hS, hr⟩, hz⟩
  · subst h0
    have hA : AwkR n0 R fb B room none w := .inl ⟨rfl, A, pl, hq, h1, h2, h3⟩
    exact (open_new h1.1 h2).mono fun e w' ⟨v, he, hr, hb⟩ => ⟨op5_of he hr, (hA.below hb).mono (by omega)⟩
  · by_cases h0 : S.now newP = none
    · have hA : AwkR n0 R fb B room o w := .inr ⟨pl, A, b, S, hq, hb, hok, hR, ⟨⟨hS, h0⟩, hr⟩, hz⟩
      exact (open_rep hok hR ⟨hS, h0⟩ ho).mono fun e w' ⟨v, he, hr, hb⟩ => ⟨op5_of he hr, (hA.below hb).mono (by omega)⟩
    · exact (open_goes hok hb hR hz hq hB hS h0 ho).mono fun e w' ⟨he, u, hX⟩ => ⟨he, .inr (hX.all hq ⟨rm_q hS two_refs h0 u, hr⟩)⟩
end
end G
end Go.Proofs.YtknmmlfdlfioiaaGreatDoor.Kf
namespace Go.Proofs.YtknmmlfdlfioiaaGreatDoor.Kf
open Vc Go.RowKit Go.Shelf
namespace G
section
variable {n0 : Nat} {R R' : (Nat → Prop) → World → Prop} {w w' : World} {fb B b g room U s : Nat} {A A2 : Nat → Prop} {pl : Value} {S : Fs} {t k n : Int} {tx : ByteArray} {o : Option ByteArray} {Q : Fs → Prop}
theorem dead_stay (h : Dead pl n0 A b w fb S) (hsz : w.heap.size ≤ w'.heap.size) (hm : MaxAt w') (hk : ∀ (g : Nat) (o : Obj), w.heap[g]? = some o → A g → w'.heap[g]? = some o) : Dead pl n0 A b w' fb S := by
  obtain ⟨nb, b2, b3, n, D, F, hn, hfs, hm1, hm2, hm3, d12, d13, d23, a1, a2, a3, a0, hL⟩ := h.laid
  have inn : ∀ {g : Nat} {o : Obj}, w.heap[g]? = some o → Wide A w g → A g := fun hg hw => hw.elim id (fun e => by have := block_lt hg; omega)
  have same : ∀ {g : Nat} {o : Obj}, w.heap[g]? = some o → Wide A w g → w'.heap[g]? = some o := fun hg hw => hk _ _ hg (inn hg hw)
  have up : ∀ {g : Nat} {o : Obj}, w.heap[g]? = some o → Wide A w g → Wide A w' g := fun hg hw => .inl (inn hg hw)
  have hmp : ∀ {kt : TypeId} {c q : Nat} {Dx : DataW Value}, Wide A w c → w.ownsMap Tryz.prog kt anyE c q Dx → w'.ownsMap Tryz.prog kt anyE c q Dx := by
    intro kt c q Dx hc hmx
    obtain ⟨es, cl, h1, r⟩ := hmx
    exact ⟨es, cl, same h1 hc, r⟩
  have mpb : ∀ {kt : TypeId} {c q : Nat} {Dx : DataW Value}, Wide A w c → w.ownsMap Tryz.prog kt anyE c q Dx → Wide A w' c := by
    intro kt c q Dx hc hmx
    obtain ⟨es, cl, h1, r⟩ := hmx
    exact up h1 hc
  have hfo : ∀ kl v, (VW (Wide A w) w fb kl v ∧ True) → (VW (Wide A w') w' fb kl v ∧ True) := by
    rintro kl v ⟨⟨l, a, h1, h2, h3, h4⟩, _⟩
    refine ⟨⟨l, a, h1, h2, h3, ?_⟩, trivial⟩
    rcases h4 with h4 | ⟨xb, h4, hAx, num, now, sure, links, hF, r⟩
    · exact .inl h4
    · exact .inr ⟨xb, h4, up hF hAx, num, now, sure, links, same hF hAx, r⟩
  exact ⟨hm, h.z0, Nat.le_trans h.nw hsz, h.lo, fun g hg => Nat.lt_of_lt_of_le (h.inA g hg) hsz, h.fit, h.acts, nb, b2, b3, n, D, F, hn, same hfs a0, hmp a1 hm1, hmp a2 hm2, hmp a3 hm3, d12, d13, d23, mpb a1 hm1, mpb a2 hm2, mpb a3 hm3, up hfs a0,
    ⟨hL.nr1, hL.nr2, hL.k1.mono hfo, hL.k2.mono hfo, hL.inj, fun x hx => by
      obtain ⟨⟨l, hF⟩, h1, h2, h3, h4⟩ := hL.files x hx
      exact ⟨⟨l, same hF h4⟩, h1, h2, h3, up hF h4⟩, hL.m3, hL.uns, hL.unv⟩⟩
/-- What stands beside is another thing from now on: the place's own blocks stay. -/
structure Chg (n0 : Nat) (R R' : (Nat → Prop) → World → Prop) (w w' : World) : Prop where
  st : Stab R'
  bel : Below n0 w w'
  keep : ∀ A, (∀ g, A g → g < w.heap.size) → R A w → ∀ g x, A g → w.heap[g]? = some x → w'.heap[g]? = some x
  turn : ∀ A, (∀ g, A g → g < w.heap.size) → R A w → R' A w'
theorem Chg.rz (hc : Chg n0 R R' w w') (hi : ∀ g, A g → g < w.heap.size) (h : Rz R A w) : Rz R' A w' := ⟨hc.st, hc.turn A hi h.2⟩
theorem Fresh0.chg (h : Fresh0 n0 fb room A w) (hb : Below n0 w w') : Fresh0 n0 fb room A w' := ⟨h.1.step hb, h.2.1, fun g hg => Nat.lt_of_lt_of_le (h.2.2.1 g hg) hb.size, h.2.2.2⟩
theorem AtR.chg (h : AtR n0 R fb B room o U w) (hc : Chg n0 R R' w w') : AtR n0 R' fb B room o U w' := by
  obtain ⟨A, b, h1, h2, h3⟩ := h
  have hk := hc.keep A h2.inA h3.2
  have hok := h2.ok.step hc.bel
  refine ⟨A, b, h1, ⟨hok, h2.lo, fun g hg => Nat.lt_of_lt_of_le (h2.inA g hg) hc.bel.size, h2.fbA, h2.rr, ?_⟩, hc.rz h2.inA h3⟩
  rcases h2.st with ⟨e, hN⟩ | ⟨S, hS, r⟩
  · exact .inl ⟨e, hk fb _ h2.fbA hN⟩
  · exact .inr ⟨S, hS.stay hc.bel.size hok.max (fun g x hx ha => hk g x ha hx), r⟩
theorem PreR.chg (h : PreR n0 R fb B room o U s w) (hc : Chg n0 R R' w w') : PreR n0 R' fb B room o U s w' := by
  rcases h with ⟨h1, h2, A, h3, h4, h5⟩ | ⟨S, h1, h2, h3, h4, A, b, k1, k2, k3, k4⟩
  · exact .inl ⟨h1, h2, A, h3.chg hc.bel, hc.keep A h3.2.2.1 h5.2 fb _ h3.2.2.2.1 h4, hc.rz h3.2.2.1 h5⟩
  · have hok := k2.step hc.bel
    exact .inr ⟨S, h1, h2, h3, h4, A, b, k1, hok, k3.stay hc.bel.size hok.max (fun g x hx ha => hc.keep A k3.inA k4.2 g x ha hx), hc.rz k3.inA k4⟩
theorem with_plan (h : ∀ z, A z → z < w.heap.size) (hp : PlanAt w pl g t k n) : ∀ z, (A z ∨ z = g) → z < w.heap.size := fun z hz => hz.elim (h z) (fun e => by have := plan_lt hp; omega)
theorem PlnR.chg (h : PlnR n0 R fb B room o U t k n w) (hc : Chg n0 R R' w w') : PlnR n0 R' fb B room o U t k n w' := by
  rcases h with ⟨h0, h1, A, pl, g, h3, h4, h5, h6, h7⟩ | ⟨pl, g, S, hQ, A, b, k1, k2, k3, k4, k5, k6⟩
  · have hi := with_plan h3.2.2.1 h5
    have hk := hc.keep _ hi h7.2
    exact .inl ⟨h0, h1, A, pl, g, h3.chg hc.bel, hk fb _ (.inl h3.2.2.2.1) h4, plan_same h5 (fun x hx => hk g x (.inr rfl) hx), h6, hc.rz hi h7⟩
  · have hi := with_plan k5.inA k1
    have hk := hc.keep _ hi k6.2
    have hok := k4.step hc.bel
    exact .inr ⟨pl, g, S, hQ, A, b, plan_same k1 (fun x hx => hk g x (.inr rfl) hx), k2, k3, hok, k5.stay hc.bel.size hok.max (fun z x hx ha => hk z x (.inl ha) hx), hc.rz hi k6⟩
theorem StrR.chg (h : StrR n0 R fb B room o tx w) (hc : Chg n0 R R' w w') : StrR n0 R' fb B room o tx w' := by
  rcases h with ⟨h0, A, pl, hq, h3, h4, h5⟩ | ⟨pl, A, b, S, hq, k1, k2, k3, hQ, k4⟩
  · exact .inl ⟨h0, A, pl, hq, h3.chg hc.bel, hc.keep A h3.2.2.1 h5.2 fb _ h3.2.2.2.1 h4, hc.rz h3.2.2.1 h5⟩
  · have hok := k2.step hc.bel
    exact .inr ⟨pl, A, b, S, hq, k1, hok, dead_stay k3 hc.bel.size hok.max (fun g x hx ha => hc.keep A k3.inA k4.2 g x ha hx), hQ, hc.rz k3.inA k4⟩
theorem StrR.below (h : StrR n0 R fb B room o tx w) (hb : Below w.heap.size w w') : StrR n0 R fb B room o tx w' := by
  rcases h with ⟨h0, A, pl, hq, h3, h4, h5⟩ | ⟨pl, A, b, S, hq, k1, k2, k3, hQ, k4⟩
  · have hk := Kept.of_below hb
    exact .inl ⟨h0, A, pl, hq, h3.out (Out.kept hk), hk.fs h4 (by simp), h5.kept hk⟩
  · have hok := k2.step (hb.mono k2.nw)
    exact .inr ⟨pl, A, b, S, hq, k1, hok, dead_stay k3 hb.size hok.max (fun g x hx ha => (hb.block _ (Vc.block_lt hx)).trans hx), hQ, k4.kept (Kept.of_below hb)⟩
/-- What stands beside, looked at. -/
theorem AtR.side (h : AtR n0 R fb B room o U w) : ∃ A, R A w := by
  obtain ⟨A, b, _, _, h3⟩ := h
  exact ⟨A, h3.2⟩
theorem PreR.side (h : PreR n0 R fb B room o U s w) : ∃ A, R A w := by
  rcases h with ⟨h1, h2, A, h3, h4, h5⟩ | ⟨S, h1, h2, h3, h4, A, b, k1, k2, k3, k4⟩
  · exact ⟨A, h5.2⟩
  · exact ⟨A, k4.2⟩
theorem PlnR.side (h : PlnR n0 R fb B room o U t k n w) : ∃ A, R A w := by
  rcases h with ⟨h0, h1, A, pl, g, h3, h4, h5, h6, h7⟩ | ⟨pl, g, S, hQ, A, b, k1, k2, k3, k4, k5, k6⟩
  · exact ⟨_, h7.2⟩
  · exact ⟨_, k6.2⟩
theorem StrR.side (h : StrR n0 R fb B room o tx w) : ∃ A, R A w := by
  rcases h with ⟨h0, A, pl, hq, h3, h4, h5⟩ | ⟨pl, A, b, S, hq, k1, k2, k3, hQ, k4⟩
  · exact ⟨A, h5.2⟩
  · exact ⟨A, k4.2⟩
end
/-- Refs in a box of their own. -/
structure Bo (T : TypeId) (A : Nat → Prop) (g : Nat) (hd : ByteArray) (v : Value) (l : List Rf.Rf) (w : World) : Prop where
  box : w.heap[g]? = some (.cells #[.string hd, v] T (0, 0))
  off : ¬ A g
  row : Rf.RRow w v l
  offr : Kq.OffA A v
/-- What the law has ahead of its first round. -/
structure R1 (W : World) (g6 : Nat) (hd : ByteArray) (v : Value) (l : List Rf.Rf) (A : Nat → Prop) (w : World) : Prop where
  lo : ∀ g, A g → W.heap.size ≤ g
  bel : Below W.heap.size W w
  lo6 : W.heap.size ≤ g6
  was : Bo 28 A g6 hd v l w
/-- And the fall of a round. -/
structure R2 (W : World) (g6 : Nat) (hd : ByteArray) (v : Value) (l : List Rf.Rf) (gx : Nat) (cs : Array Value) (A : Nat → Prop) (w : World) : Prop where
  r1 : R1 W g6 hd v l A w
  lox : W.heap.size ≤ gx
  xb : w.heap[gx]? = some (.cells cs 32 (0, 0))
  off : ¬ A gx
  ne : gx ≠ g6
/-- And what is coming. -/
structure R3 (W : World) (g6 : Nat) (hd : ByteArray) (v : Value) (l : List Rf.Rf) (gx : Nat) (cs : Array Value) (g9 : Nat) (hd2 : ByteArray) (v2 : Value) (l2 : List Rf.Rf) (A : Nat → Prop) (w : World) : Prop where
  r2 : R2 W g6 hd v l gx cs A w
  lo9 : W.heap.size ≤ g9
  come : Bo 28 A g9 hd2 v2 l2 w
  ne6 : g9 ≠ g6
  nex : g9 ≠ gx
/-- And the refs of a step. -/
structure R4 (W : World) (g6 : Nat) (hd : ByteArray) (v : Value) (l : List Rf.Rf) (gx : Nat) (cs : Array Value) (g9 : Nat) (hd2 : ByteArray) (v2 : Value) (l2 : List Rf.Rf) (gr : Nat) (hr : ByteArray) (vr : Value) (lr : List Rf.Rf) (A : Nat → Prop) (w : World) : Prop where
  r3 : R3 W g6 hd v l gx cs g9 hd2 v2 l2 A w
  lor : W.heap.size ≤ gr
  it : Bo 37 A gr hr vr lr w
  ner : gr ≠ g6 ∧ gr ≠ gx ∧ gr ≠ g9
section
variable {T : TypeId} {A A2 : Nat → Prop} {w w' W : World} {g g6 gx g9 gr : Nat} {hd hd2 hr : ByteArray} {v v2 vr : Value} {l l2 lr : List Rf.Rf} {cs : Array Value}
theorem off_step (h : ¬ A g) (hlt : g < w.heap.size) (hA : ∀ g, A2 g → A g ∨ w.heap.size ≤ g) : ¬ A2 g := fun ha => (hA g ha).elim h (fun e => by omega)
theorem Bo.out (h : Bo T A g hd v l w) (hA : ∀ g, A2 g → A g ∨ w.heap.size ≤ g) (hO : Out A w w') : Bo T A2 g hd v l w' := by
  refine ⟨hO.same g _ h.box h.off, off_step h.off (Vc.block_lt h.box) hA, Kq.rrow_stay h.row hO.size (fun g x off sp n c hn e hx => hO.same g x hx (h.offr g off sp n c hn e)), fun g off sp n c hn e ha => ?_⟩
  rcases hA g ha with e' | e'
  · exact h.offr g off sp n c hn e e'
  · have := Kq.rrow_lt h.row g off sp n c hn e
    omega
theorem stab1 : Stab (R1 W g6 hd v l) := fun _ _ _ _ h hA hO =>
  ⟨fun g hg => (hA g hg).elim (h.lo g) (fun e => Nat.le_trans h.bel.size e), h.bel.trans (hO.below h.bel.size h.lo), h.lo6, h.was.out hA hO⟩
theorem stab2 : Stab (R2 W g6 hd v l gx cs) := fun A A2 w w' h hA hO =>
  ⟨stab1 A A2 w w' h.r1 hA hO, h.lox, hO.same _ _ h.xb h.off, off_step h.off (Vc.block_lt h.xb) hA, h.ne⟩
theorem stab3 : Stab (R3 W g6 hd v l gx cs g9 hd2 v2 l2) := fun A A2 w w' h hA hO =>
  ⟨stab2 A A2 w w' h.r2 hA hO, h.lo9, h.come.out hA hO, h.ne6, h.nex⟩
theorem stab4 : Stab (R4 W g6 hd v l gx cs g9 hd2 v2 l2 gr hr vr lr) := fun A A2 w w' h hA hO =>
  ⟨stab3 A A2 w w' h.r3 hA hO, h.lor, h.it.out hA hO, h.ner⟩
/-- Less stands beside. -/
theorem chg_drop {n0 : Nat} {R R' : (Nat → Prop) → World → Prop} (hs : Stab R') (h : ∀ A, R A w → R' A w) : Chg n0 R R' w w := ⟨hs, Below.refl _ _, fun _ _ _ _ _ _ hx => hx, fun A _ hR => h A hR⟩
/-- A box more, just made. -/
theorem chg_new {n0 : Nat} {R R' : (Nat → Prop) → World → Prop} (hn : n0 ≤ w.heap.size) (hs : Stab R') (hR : Stab R) {x : Obj} (h : ∀ A, ¬ A w.heap.size → R A (w.alloc x) → R' A (w.alloc x)) : Chg n0 R R' w (w.alloc x) :=
  ⟨hs, (Below.refl n0 w).alloc hn _, fun _ _ _ _ _ _ hx => (Rf.new_below w x).block _ (Vc.block_lt hx) |>.trans hx, fun A hi hA => h A (fun ha => by have := hi _ ha; omega) (hR A A w _ hA (fun _ hg => .inl hg) (Out.kept (Kept.alloc w x)))⟩
end
end G
end Go.Proofs.YtknmmlfdlfioiaaGreatDoor.Kf
namespace Go.Proofs.YtknmmlfdlfioiaaGreatDoor.Kf
open Vc Go.RowKit Go.Shelf
namespace G
section
variable {T T2 : TypeId} {A A2 : Nat → Prop} {w w1 w2 w' W : World} {g g2 g6 gx g9 gr : Nat} {hd hd2 hr hd' : ByteArray} {v v2 vr v' : Value} {l l2 lr l' : List Rf.Rf} {cs cs' : Array Value}
/-- Two cells set. -/
def set2 (w : World) (g : Nat) (x y : Value) : World := (w.setCell ⟨g, 0, none⟩ x).setCell ⟨g, 1, none⟩ y
theorem set2_size (x y : Value) : (set2 w g x y).heap.size = w.heap.size := by simp [set2, World.setCell]
theorem set2_other (hn : g2 ≠ g) (x y : Value) : (set2 w g x y).heap[g2]? = w.heap[g2]? := by
  unfold set2
  rw [heap_setCell_other _ ⟨g, 1, none⟩ _ _ (by first | exact hn | exact Ne.symm hn), heap_setCell_other _ ⟨g, 0, none⟩ _ _ (by first | exact hn | exact Ne.symm hn)]
theorem set2_same {a b : Value} (h : w.heap[g]? = some (.cells #[a, b] T (0, 0))) (x y : Value) : (set2 w g x y).heap[g]? = some (.cells #[x, y] T (0, 0)) := by
  have h1 : (w.setCell ⟨g, 0, none⟩ x).heap[g]? = some (.cells #[x, b] T (0, 0)) := by
    rw [heap_setCell_same w g 0 _ T _ h]
    rfl
  unfold set2
  rw [heap_setCell_same _ g 1 _ T _ h1]
  rfl
theorem set2_below {n : Nat} (hn : n ≤ g) (x y : Value) : Below n w (set2 w g x y) := ((Below.refl n w).setCell (p := ⟨g, 0, none⟩) hn _).setCell (p := ⟨g, 1, none⟩) hn _
theorem row_not_box (h : Rf.RRow w v' l') (hb : w.heap[g]? = some (.cells #[.string hd, v] T (0, 0))) (hv : ∃ a n c, v = .slice a n c) (x : ByteArray) (y : Value) : Rf.RRow (set2 w g (.string x) y) v' l' := by
  obtain ⟨a, n, c, rfl⟩ := hv
  have h1 : (w.setCell ⟨g, 0, none⟩ (.string x)).heap[g]? = some (.cells #[.string x, .slice a n c] T (0, 0)) := by
    rw [heap_setCell_same w g 0 _ T _ hb]
    rfl
  exact Kq.rrow_set (Kq.rrow_set h hb 0 _) h1 1 _
theorem Bo.form (h : Bo T A g hd v l w) : ∃ a n c, v = .slice a n c := by
  obtain ⟨a, c, e⟩ := Kq.row_form3 h.row
  exact ⟨a, _, c, e⟩
theorem Bo.put (h : Bo T A g hd v l w) (hrow : Rf.RRow w v' l') (ho : Kq.OffA A v') : Bo T A g hd' v' l' (set2 w g (.string hd') v') := ⟨set2_same h.box _ _, h.off, row_not_box hrow h.box h.form _ _, ho⟩
theorem Bo.other (h : Bo T A g hd v l w) (h2 : Bo T2 A g2 hd2 v2 l2 w) (hne : g ≠ g2) (x : ByteArray) (y : Value) : Bo T A g hd v l (set2 w g2 (.string x) y) := ⟨by rw [set2_other hne]; exact h.box, h.off, row_not_box h.row h2.box h2.form _ _, h.offr⟩
theorem R1.put (h : R1 W g6 hd v l A w) (hrow : Rf.RRow w v' l') (ho : Kq.OffA A v') : R1 W g6 hd' v' l' A (set2 w g6 (.string hd') v') := ⟨h.lo, h.bel.trans (set2_below h.lo6 _ _), h.lo6, h.was.put hrow ho⟩
theorem R3.was (h : R3 W g6 hd v l gx cs g9 hd2 v2 l2 A w) (hrow : Rf.RRow w v' l') (ho : Kq.OffA A v') : R3 W g6 hd' v' l' gx cs g9 hd2 v2 l2 A (set2 w g6 (.string hd') v') :=
  ⟨⟨h.r2.r1.put hrow ho, h.r2.lox, by rw [set2_other h.r2.ne]; exact h.r2.xb, h.r2.off, h.r2.ne⟩, h.lo9, h.come.other h.r2.r1.was h.ne6 _ _, h.ne6, h.nex⟩
theorem R3.coming (h : R3 W g6 hd v l gx cs g9 hd2 v2 l2 A w) (hrow : Rf.RRow w v' l') (ho : Kq.OffA A v') : R3 W g6 hd v l gx cs g9 hd' v' l' A (set2 w g9 (.string hd') v') :=
  ⟨⟨⟨h.r2.r1.lo, h.r2.r1.bel.trans (set2_below h.lo9 _ _), h.r2.r1.lo6, h.r2.r1.was.other h.come (Ne.symm h.ne6) _ _⟩, h.r2.lox, by rw [set2_other (Ne.symm h.nex)]; exact h.r2.xb, h.r2.off, h.r2.ne⟩, h.lo9, h.come.put hrow ho, h.ne6, h.nex⟩
theorem own_off {m : Nat} (h : ∀ k, v'.ownBlock = some k → m ≤ k) (hA : ∀ g, A g → g < m) : Kq.OffA A v' := fun g off sp n c _ e ha => by
  have h1 := h g (by rw [e]; rfl)
  have h2 := hA g ha
  omega
theorem low_off {m : Nat} (h : Rf.RRow W v' l') (hm : W.heap.size ≤ m) (hA : ∀ g, A g → m ≤ g) : Kq.OffA A v' := fun g off sp n c hn e ha => by
  have h1 := Kq.rrow_lt h g off sp n c hn e
  have h2 := hA g ha
  omega
/-- The fall of a round has a box. -/
theorem chg_x : Chg W.heap.size (R1 W g6 hd v l) (R2 W g6 hd v l w.heap.size cs) w (w.alloc (.cells cs 32)) ∨ w.heap.size < W.heap.size ∨ w.heap.size ≤ g6 := by
  by_cases h1 : w.heap.size < W.heap.size
  · exact .inr (.inl h1)
  · by_cases h2 : w.heap.size ≤ g6
    · exact .inr (.inr h2)
    · exact .inl (chg_new (by omega) stab2 stab1 (fun A ha hR => ⟨hR, by omega, alloc_at rfl, ha, by omega⟩))
theorem chg_x' (hw : W.heap.size ≤ w.heap.size) (hg : g6 < w.heap.size) : Chg W.heap.size (R1 W g6 hd v l) (R2 W g6 hd v l w.heap.size cs) w (w.alloc (.cells cs 32)) :=
  chg_x.elim id (fun h => h.elim (fun e => by omega) (fun e => by omega))
theorem row_x {z k n : Int} (h : Rf.RRow w v l) (hg : w.heap[gx]? = some (.cells #[.int .i64 z, .int .u64 k, .int .i64 n] 32 (0, 0))) (i : Nat) (u : Value) : Rf.RRow (w.setCell ⟨gx, i, none⟩ u) v l := by
  obtain ⟨h0, a1, c1, h1, h2, h3, h4⟩ := h
  refine ⟨h0, a1, c1, h1, h2, h3, fun hp => ?_⟩
  obtain ⟨b, o, e, hlt, hc⟩ := h4 hp
  refine ⟨b, o, e, by simpa [World.setCell] using hlt, fun j z hj => ?_⟩
  have hne : b ≠ gx := fun e' => by
    subst e'
    cases l with
    | nil => cases hp
    | cons y ys =>
      have q0 := hc 0 (.string y.nm) (by simp [Rf.rfsV, Rf.rfV])
      simp only [World.cell?, hg] at q0
      match o with
      | 0 => simp at q0
      | 1 => simp at q0
      | 2 => simp at q0
      | o + 3 => simp at q0
  have := hc j z hj
  rw [← this]
  simp only [World.cell?]
  rw [heap_setCell_other _ ⟨gx, i, none⟩ _ _ (by first | exact hne | exact Ne.symm hne)]
/-- Its step is set. -/
theorem chg_at {z z' k n : Int} : Chg W.heap.size (R2 W g6 hd v l gx #[.int .i64 z, .int .u64 k, .int .i64 n]) (R2 W g6 hd v l gx #[.int .i64 z', .int .u64 k, .int .i64 n]) w (w.setCell ⟨gx, 0, none⟩ (.int .i64 z')) ∨ ∀ A, ¬ R2 W g6 hd v l gx #[.int .i64 z, .int .u64 k, .int .i64 n] A w := by
  by_cases h : ∃ A, R2 W g6 hd v l gx #[.int .i64 z, .int .u64 k, .int .i64 n] A w
  · obtain ⟨A0, h0⟩ := h
    have hn := h0.lox
    have hsz : (w.setCell ⟨gx, 0, none⟩ (.int .i64 z')).heap.size = w.heap.size := by simp [World.setCell]
    have hb : Below W.heap.size w (w.setCell ⟨gx, 0, none⟩ (.int .i64 z')) := (Below.refl _ w).setCell (p := ⟨gx, 0, none⟩) hn _
    have ho : ∀ k, k ≠ gx → (w.setCell ⟨gx, 0, none⟩ (.int .i64 z')).heap[k]? = w.heap[k]? := fun k hk => heap_setCell_other _ ⟨gx, 0, none⟩ _ _ (by first | exact hk | exact Ne.symm hk)
    refine .inl ⟨stab2, hb, fun A _ hR g x ha hx => ?_, fun A _ hR => ⟨⟨hR.r1.lo, hR.r1.bel.trans hb, hR.r1.lo6, ?_⟩, hn, ?_, hR.off, hR.ne⟩⟩
    · rw [ho g (fun e => hR.off (e ▸ ha))]
      exact hx
    · refine ⟨by rw [ho _ (Ne.symm hR.ne)]; exact hR.r1.was.box, hR.r1.was.off, ?_, hR.r1.was.offr⟩
      exact row_x hR.r1.was.row hR.xb 0 _
    · rw [heap_setCell_same w gx 0 _ 32 _ hR.xb]
      rfl
  · exact .inr (fun A hA => h ⟨A, hA⟩)
end
end G
end Go.Proofs.YtknmmlfdlfioiaaGreatDoor.Kf
namespace Go.Proofs.YtknmmlfdlfioiaaGreatDoor.Kf
open Vc Go.RowKit Go.Shelf
namespace G
open Rf (RRow.take)
def CutAt (w : World) (hd : ByteArray) (v : Value) (l : List Rf.Rf) (e : Ending) (w' : World) : Prop := ∃ v', e = .returned (.agg #[.string hd, v']) ∧ (∀ X, Rf.RRow X v l → Rf.RRow X v' (l.take 260)) ∧ Below w.heap.size w w'
set_option maxHeartbeats 1600000 in
set_option maxRecDepth 100000 in
theorem cut_at (hd : ByteArray) (v : Value) (l : List Rf.Rf) (w : World) (h : Rf.RRow w v l) :
    Calls Tryz.prog 9 #[.agg #[.string hd, v]] w fun e w' => CutAt w hd v l e w' := by
  have HT : Hid (∀ e w', CutAt w hd v l e w' ↔ ∃ v', e = .returned (.agg #[.string hd, v']) ∧ (∀ X, Rf.RRow X v l → Rf.RRow X v' (l.take 260)) ∧ Below w.heap.size w w') := hideIt (fun _ _ => Iff.rfl)
  obtain ⟨h0, a, c, rfl, h1, h2, h3⟩ := h
  obtain ⟨n, hn⟩ : ∃ n, l.length = n := ⟨_, rfl⟩
  have hnm : (n : Int) ≤ 9223372036854775807 := by have := h2.1; unfold maxLen at this; omega
  have hcm : (c : Int) ≤ 9223372036854775807 := by have := h2.1; unfold maxLen at this; omega
  rw [hn] at h1 HT ⊢
  by_cases hlt : 260 < n
  · have d1 : decide ((260 : Int) < (n : Int)) = true := decide_eq_true (by omega)
    have d2 : (260 : Int) < (n : Int) := by omega
    have d3 : (260 : Int) ≤ (c : Int) := by omega
    have d4 : 260 ≤ c := by omega
    have HF : Hid (∀ X, Rf.RRow X (.slice a n c) l → Rf.RRow X (.slice a 260 c) (l.take 260)) := hideIt (fun X hX => hX.take 260 (by omega))
    clear h0 h3 hn
    go_enter Tryz.func9, Tryz.ntmps9
    go_wp2
    refine bodyPost_ret (v := .agg #[.string hd, .slice a 260 c]) (results_cell_row Tryz.results9 _ _ (w.heap.size + 1) 37 _ (0, 0) _ rfl (heap_alloc2_new w _ _) Tryz.underlying37 rfl Rf.infoRs) rfl ?_
    have hb : Below w.heap.size w ((w.alloc (.cells #[.string hd, .slice a 260 c] 37)).alloc (.cells #[.string hd, .slice a 260 c] 37)) := ((Below.refl _ w).alloc (Nat.le_refl _) _).alloc (by simp) _
    exact (HT.out _ _).2 ⟨_, rfl, HF.out, hb⟩
  · have d1 : decide ((260 : Int) < (n : Int)) = false := decide_eq_false (by omega)
    have HF : Hid (∀ X, Rf.RRow X (.slice a n c) l → Rf.RRow X (.slice a n c) (l.take 260)) := hideIt (fun X hX => by rw [List.take_of_length_le (by omega)]; exact hX)
    clear h0 h3 hn
    go_enter Tryz.func9, Tryz.ntmps9
    go_wp2
    refine bodyPost_ret (v := .agg #[.string hd, .slice a n c]) (results_cell_row Tryz.results9 _ _ (w.heap.size + 1) 37 _ (0, 0) _ rfl (heap_alloc2_new w _ _) Tryz.underlying37 rfl Rf.infoRs) rfl ?_
    have hb : Below w.heap.size w ((w.alloc (.cells #[.string hd, .slice a n c] 37)).alloc (.cells #[.string hd, .slice a n c] 37)) := ((Below.refl _ w).alloc (Nat.le_refl _) _).alloc (by simp) _
    exact (HT.out _ _).2 ⟨_, rfl, HF.out, hb⟩
section
variable {A : Nat → Prop} {w w1 w2 W : World} {g6 gx g9 gr : Nat} {hd hd2 hr hd' : ByteArray} {v v2 vr v' : Value} {l l2 lr l' : List Rf.Rf} {cs : Array Value}
theorem chg_come (hw : W.heap.size ≤ w.heap.size) (hg : g6 < w.heap.size) (hx : gx < w.heap.size) : Chg W.heap.size (R2 W g6 hd v l gx cs) (R3 W g6 hd v l gx cs w.heap.size hd v l) w (w.alloc (.cells #[.string hd, v] 28)) :=
  chg_new hw stab3 stab2 (fun A ha hR => ⟨hR, hw, ⟨alloc_at rfl, ha, hR.r1.was.row, hR.r1.was.offr⟩, by omega, by omega⟩)
theorem chg_it (hw : W.heap.size ≤ w.heap.size) (hg : g6 < w.heap.size) (hx : gx < w.heap.size) (h9 : g9 < w.heap.size) (hlow : Rf.RRow W vr lr) : Chg W.heap.size (R3 W g6 hd v l gx cs g9 hd2 v2 l2) (R4 W g6 hd v l gx cs g9 hd2 v2 l2 w.heap.size hr vr lr) w (w.alloc (.cells #[.string hr, vr] 37)) :=
  chg_new hw stab4 stab3 (fun A ha hR => ⟨hR, hw, ⟨alloc_at rfl, ha, Rf.VRow.below hlow hR.r2.r1.bel, low_off hlow (Nat.le_refl _) hR.r2.r1.lo⟩, by omega, by omega, by omega⟩)
theorem R3.kept (h : R3 W g6 hd v l gx cs g9 hd2 v2 l2 A w1) (hb : Below w1.heap.size w1 w2) : R3 W g6 hd v l gx cs g9 hd2 v2 l2 A w2 := stab3 A A w1 w2 h (fun _ hg => .inl hg) (Out.kept (Kept.of_below hb))
theorem chg_ok (hw : W.heap.size ≤ w1.heap.size) (hb : Below w1.heap.size w1 w2) (hrow : Rf.RRow w2 v' l') (hown : ∀ k, v'.ownBlock = some k → w1.heap.size ≤ k) (h6 : W.heap.size ≤ g6) (h9 : W.heap.size ≤ g9) :
    Chg W.heap.size (R4 W g6 hd v l gx cs g9 hd2 v2 l2 gr hr vr lr) (R3 W g6 hd' v' l' gx cs g9 hd' v' l') w1 (set2 (set2 w2 g6 (.string hd') v') g9 (.string hd') v') :=
  ⟨stab3, ((hb.mono hw).trans (set2_below h6 _ _)).trans (set2_below h9 _ _), fun A hi hR g x ha hx => by
    rw [set2_other (show g ≠ g9 from fun e => hR.r3.come.off (e ▸ ha)), set2_other (show g ≠ g6 from fun e => hR.r3.r2.r1.was.off (e ▸ ha))]
    exact (hb.block _ (Vc.block_lt hx)).trans hx, fun A hi hR => by
    have ho := own_off hown hi
    have h3 := (hR.r3.kept hb).was (hd' := hd') hrow ho
    exact h3.coming (h3.r2.r1.was.row) ho⟩
theorem chg_still (hw : W.heap.size ≤ w1.heap.size) (hb : Below w1.heap.size w1 w2) (hrow : Rf.RRow w2 v' l') (hown : ∀ k, v'.ownBlock = some k → w1.heap.size ≤ k) (h9 : W.heap.size ≤ g9) :
    Chg W.heap.size (R4 W g6 hd v l gx cs g9 hd2 v2 l2 gr hr vr lr) (R3 W g6 hd v l gx cs g9 hd' v' l') w1 (set2 w2 g9 (.string hd') v') :=
  ⟨stab3, (hb.mono hw).trans (set2_below h9 _ _), fun A hi hR g x ha hx => by
    rw [set2_other (show g ≠ g9 from fun e => hR.r3.come.off (e ▸ ha))]
    exact (hb.block _ (Vc.block_lt hx)).trans hx, fun A hi hR => (hR.r3.kept hb).coming hrow (own_off hown hi)⟩
theorem chg_end (hw : W.heap.size ≤ w1.heap.size) (hb : Below w1.heap.size w1 w2) (hrow : Rf.RRow w2 v' l') (hown : ∀ k, v'.ownBlock = some k → w1.heap.size ≤ k) (h6 : W.heap.size ≤ g6) :
    Chg W.heap.size (R3 W g6 hd v l gx cs g9 hd2 v2 l2) (R1 W g6 hd' v' l') w1 (set2 w2 g6 (.string hd') v') :=
  ⟨stab1, (hb.mono hw).trans (set2_below h6 _ _), fun A hi hR g x ha hx => by
    rw [set2_other (show g ≠ g6 from fun e => hR.r2.r1.was.off (e ▸ ha))]
    exact (hb.block _ (Vc.block_lt hx)).trans hx, fun A hi hR => ((hR.kept hb).r2.r1).put hrow (own_off hown hi)⟩
end
end G
end Go.Proofs.YtknmmlfdlfioiaaGreatDoor.Kf
namespace Go.Proofs.YtknmmlfdlfioiaaGreatDoor.Kf
open Go.ChangeShapes Go.WideShapes Go.ChangeAt Go.WideMaps Go.WideElems Go.RowKit Go.Deep
set_option maxRecDepth 100000
/-- The bits of a fall that is handed in are within their kind. -/
def U64 (x : Int × Int × Int) : Prop := 0 ≤ x.2.1 ∧ x.2.1 ≤ 18446744073709551615
theorem u64_of {k : Int} (h : (Lit.int IntKind.u64 k).wf = true) : 0 ≤ k ∧ k ≤ 18446744073709551615 := by
  have hk : IntKind.u64.min = 0 := by decide +kernel
  have hx : IntKind.u64.max = 18446744073709551615 := by decide +kernel
  simp only [Lit.wf, Bool.and_eq_true, decide_eq_true_eq, hk, hx] at h
  exact h
/-- A row of falls in memory. -/
def FsRow (w : World) (v : Value) (fs : List (Int × Int × Int)) : Prop := ∃ a c, v = .slice a fs.length c ∧ (0 < fs.length → ∃ b o, a = some ⟨b, o, none⟩ ∧ b < w.heap.size ∧ ∀ (i : Nat) (x : Int × Int × Int), fs[i]? = some x → w.cell? ⟨b, o + i * 3, none⟩ = some (.int .i64 x.1) ∧ w.cell? ⟨b, o + i * 3 + 1, none⟩ = some (.int .u64 x.2.1) ∧ w.cell? ⟨b, o + i * 3 + 2, none⟩ = some (.int .i64 x.2.2) ∧ U64 x)
theorem list3 {α : Type} {cs : List α} (h : cs.length = 3) : ∃ c0 c1 c2, cs = [c0, c1, c2] := by
  match cs, h with
  | [a, b, c], _ => exact ⟨a, b, c, rfl⟩
theorem cells3 : Tryz.prog.cellsOf 3 = 1 := by kernel_rfl
theorem cellsU : Tryz.prog.cellsOf 30 = 1 := by kernel_rfl
theorem open_onef {H : Type} {enc : TypeId × Value → H} {W : World} {fuel : Nat} {cs : List Value} {y : DataW H × List MemPlace} (h : DataW.trod enc Tryz.prog W 0 (fun _ => true) true fuel 32 cs = some y) :
    ∃ x : Int × Int × Int, cs = [.int .i64 x.1, .int .u64 x.2.1, .int .i64 x.2.2] ∧ y.2 = [] ∧ U64 x := by
  obtain ⟨y0, y1, y2, n, hx, hl, h0, h1, h2⟩ := trod_struct3 Tryz.underlying32 h
  obtain ⟨c0, c1, c2, rfl⟩ := list3 (hl.trans Kq.cellsFall)
  simp [cells3, cellsU] at h0 h1 h2
  obtain ⟨a, e0, x0, _⟩ := DataW.trod_int Tryz.underlying3 h0
  obtain ⟨k, e1, x1, k1⟩ := DataW.trod_int Tryz.underlying30 h1
  obtain ⟨t, e2, x2, _⟩ := DataW.trod_int Tryz.underlying3 h2
  simp only [List.cons.injEq, and_true] at e0 e1 e2
  subst e0 e1 e2
  exact ⟨(a, k, t), rfl, by rw [hx, x0, x1, x2]; rfl, u64_of k1⟩
theorem open_frow {H : Type} {enc : TypeId × Value → H} {W : World} {fuel : Nat} {v : Value} {y : DataW H × List MemPlace} (hf : DataW.trod enc Tryz.prog W 0 (fun _ => true) true fuel 23 [v] = some y) :
    ∃ fs : List (Int × Int × Int), FsRow W v fs ∧ (∀ p ∈ y.2, p.block < W.heap.size) := by
  rcases open_slice Tryz.underlying23 hf with ⟨hcs, hx⟩ | ⟨a, len, cap, m, n, D, Pl, hcs, hb, hl, hm, hmm, hx, hel⟩
  · simp only [List.cons.injEq, and_true] at hcs
    subst hcs
    refine ⟨[], ⟨none, 0, rfl, fun h => by simp at h⟩, ?_⟩
    rw [hx]
    simp
  · simp only [List.cons.injEq, and_true] at hcs
    subst hcs
    simp only [if_true] at hmm
    subst hmm
    rw [Kq.cellsFall] at hel hx
    obtain ⟨E, hE⟩ := choose_lt (α := Int × Int × Int) (p := fun i x => W.cell? ((a.add (i * 3)).add 0) = some (.int .i64 x.1) ∧ W.cell? ((a.add (i * 3)).add 1) = some (.int .u64 x.2.1) ∧ W.cell? ((a.add (i * 3)).add 2) = some (.int .i64 x.2.2) ∧ Pl i = [] ∧ U64 x) (n := m) (fun i hi => by
      obtain ⟨cs', h1, h2⟩ := hel i hi
      obtain ⟨x, rfl, hp⟩ := open_onef h2
      obtain ⟨_, _, hc⟩ := World.cells?_some h1
      exact ⟨x, (hc 0 (by omega)).trans rfl, (hc 1 (by omega)).trans rfl, (hc 2 (by omega)).trans rfl, hp⟩)
    have hlt : 0 < m → a.block < W.heap.size ∧ a.spot = none := by
      intro h0
      have h1 : W.cell? a = some (.int .i64 (E 0).1) := by
        have := (hE 0 h0).1
        simpa [Addr.add] using this
      exact ⟨Rf.cell_lt h1, by obtain ⟨b, o, sp⟩ := a; exact Rf.cell_none h1⟩
    have hat : ∀ (i : Nat) (x : Int × Int × Int), ((List.range len).map E)[i]? = some x → i < len ∧ x = E i := fun i x hx => by
      have hi : i < len := by have := (List.getElem?_eq_some_iff.1 hx).1; simpa using this
      rw [List.getElem?_map, List.getElem?_range hi] at hx
      exact ⟨hi, by simpa using hx.symm⟩
    refine ⟨(List.range len).map E, ⟨some a, m, by simp, fun h0 => ?_⟩, ?_⟩
    · have h0' : 0 < len := by simpa using h0
      obtain ⟨h1, h2⟩ := hlt (by omega)
      refine ⟨a.block, a.off, by rw [← h2], h1, fun i x hx => ?_⟩
      obtain ⟨hi, rfl⟩ := hat i x hx
      obtain ⟨e0, e1, e2, _, e4⟩ := hE i (by omega)
      obtain ⟨b, o, sp⟩ := a
      simp only at h2
      subst h2
      rw [Rf.add2] at e0 e1 e2
      exact ⟨e0, e1, e2, e4⟩
    · intro p hp
      rw [hx] at hp
      rcases List.mem_append.1 hp with hp | hp
      · obtain ⟨k, hk, rfl⟩ := MemPlace.mem_row.1 hp
        exact (hlt (by omega)).1
      · obtain ⟨i, hi, hp⟩ := List.mem_flatMap.1 hp
        rw [(hE i (List.mem_range.1 hi)).2.2.2.1] at hp
        cases hp
theorem open_falls {H : Type} {enc : TypeId × Value → H} {W : World} {b0 : Nat} {r : Reach} {v : Value} {d : DataW H} {ps : List MemPlace} (hv : Value.okWide Tryz.prog W r b0 23 v) (h : DataW.Trod enc Tryz.prog W 0 (fun _ => true) true 23 v d ps) :
    ∃ fs : List (Int × Int × Int), FsRow W v fs ∧ (∀ p ∈ ps, p.block < W.heap.size) := by
  obtain ⟨a0, len0, cap0, rfl⟩ := okWide_slice Tryz.underlying23 hv
  obtain ⟨fuel, hf⟩ := h
  exact open_frow (y := (d, ps)) hf
end Go.Proofs.YtknmmlfdlfioiaaGreatDoor.Kf
namespace Go.Proofs.YtknmmlfdlfioiaaGreatDoor.Kf
open Vc Go.RowKit Go.Shelf
namespace G
open Kq (mainP opP sizeO RsRow RsOK RsE rdH rdE rdL frB)
section
variable {n0 : Nat} {R R' : (Nat → Prop) → World → Prop} {fb N room : Nat} {y fk ft : Int} {w w' : World} {G : Option ByteArray → Prop}
theorem AtR.mono {B B' U : Nat} {o : Option ByteArray} (h : AtR n0 R fb B room o U w) (hB : B ≤ B') : AtR n0 R fb B' room o U w := by
  obtain ⟨A, b, h1, h2⟩ := h
  exact ⟨A, b, by omega, h2⟩
theorem PldR.side {B : Nat} {o : Option ByteArray} (h : PldR n0 R fb B room o y fk ft w) : ∃ A, R A w := by
  rcases h with ⟨_, A, pl, g, h3, h4, h5, h6, h7⟩ | ⟨pl, g, b, A, S, _, _, _, _, _, _, _, h⟩
  · exact ⟨_, h7.2⟩
  · exact ⟨_, h.2⟩
theorem PluR.side {B : Nat} {o : Option ByteArray} (h : PluR n0 R fb B room o y fk ft w) : ∃ A, R A w := by
  rcases h with ⟨_, A, pl, g, h3, h4, h5, h6, h7⟩ | ⟨pl, g, S, hQ, A, b, k1, k2, k3, k4, k5, k6⟩
  · exact ⟨_, h7.2⟩
  · exact ⟨_, k6.2⟩
/-- Ahead of the fall: power is there, or it fell. -/
def T1 (n0 : Nat) (R : (Nat → Prop) → World → Prop) (fb N room : Nat) (y fk ft : Int) (G : Option ByteArray → Prop) (w : World) : Prop := (∃ o U B, B ≤ N ∧ G o ∧ PlnR n0 R fb B room o U y fk ft w) ∨ (∃ o tx B, B ≤ N ∧ G o ∧ G (some tx) ∧ StrR n0 R fb B room o tx w)
def T2 (n0 : Nat) (R : (Nat → Prop) → World → Prop) (fb N room : Nat) (y fk ft : Int) (G : Option ByteArray → Prop) (w : World) : Prop := (∃ o B, B ≤ N ∧ G o ∧ PldR n0 R fb B room o y fk ft w) ∨ (∃ o tx B, B ≤ N ∧ G o ∧ G (some tx) ∧ StrR n0 R fb B room o tx w)
def T3 (n0 : Nat) (R : (Nat → Prop) → World → Prop) (fb N room : Nat) (y fk ft : Int) (G : Option ByteArray → Prop) (w : World) : Prop := (∃ o B, B ≤ N ∧ G o ∧ PluR n0 R fb B room o y fk ft w) ∨ (∃ o B, B ≤ N ∧ G o ∧ StuR n0 R fb B room o w)
def T4 (n0 : Nat) (R : (Nat → Prop) → World → Prop) (fb N room : Nat) (y fk ft : Int) (G : Option ByteArray → Prop) (w : World) : Prop := (∃ o B, B ≤ N ∧ G o ∧ PluR n0 R fb B room o y fk ft w) ∨ (∃ o B, B ≤ N ∧ G o ∧ AwkR n0 R fb B room o w)
def T5 (n0 : Nat) (R : (Nat → Prop) → World → Prop) (fb N room : Nat) (G : Option ByteArray → Prop) (w : World) : Prop := ∃ o U B, B ≤ N ∧ G o ∧ AtR n0 R fb B room o U w
def T6 (n0 : Nat) (R : (Nat → Prop) → World → Prop) (fb N room : Nat) (G : Option ByteArray → Prop) (w : World) : Prop := ∃ o B, B ≤ N ∧ G o ∧ OffR n0 R fb B room o (sizeO o) w
def T7 (n0 : Nat) (R : (Nat → Prop) → World → Prop) (fb N room : Nat) (G : Option ByteArray → Prop) (w : World) : Prop := ∃ o B, B ≤ N ∧ G o ∧ AtR n0 R fb B room o (sizeO o) w
theorem T1.side (h : T1 n0 R fb N room y fk ft G w) : ∃ A, R A w := by
  rcases h with ⟨o, U, B, hB, hG, hP⟩ | ⟨o, tx, B, hB, hG, hG2, hS⟩
  · exact hP.side
  · exact hS.side
theorem T5.side (h : T5 n0 R fb N room G w) : ∃ A, R A w := by
  obtain ⟨o, U, B, hB, hG, hP⟩ := h
  exact hP.side
theorem T1.crash (h : T1 n0 R fb N room y fk ft G w) (hN : N < 800) (k2 n2 : Int) : Calls Tryz.prog 12 #[.pointer (some ⟨fb, 0, none⟩), .int .u64 k2, .int .i64 n2] w fun e w' => e = .returned (.tuple #[]) ∧ T2 n0 R fb (N + 1) room y fk ft G w' := by
  rcases h with ⟨o, U, B, hB, hG, hP⟩ | ⟨o, tx, B, hB, hG, hG2, hS⟩
  · exact (hP.crash (by omega) k2 n2).mono fun e w' ⟨he, h⟩ => ⟨he, .inl ⟨o, B + 1, by omega, hG, h⟩⟩
  · exact (hS.crash k2 n2).mono fun e w' ⟨he, h⟩ => ⟨he, .inr ⟨o, tx, B, by omega, hG, hG2, h⟩⟩
theorem T2.up (h : T2 n0 R fb N room y fk ft G w) : Calls Tryz.prog 13 #[.pointer (some ⟨fb, 0, none⟩)] w fun e w' => e = .returned (.bool true) ∧ T3 n0 R fb N room y fk ft G w' := by
  rcases h with ⟨o, B, hB, hG, hP⟩ | ⟨o, tx, B, hB, hG, hG2, hS⟩
  · exact hP.up.mono fun e w' ⟨he, h⟩ => ⟨he, .inl ⟨o, B, hB, hG, h⟩⟩
  · exact hS.up.mono fun e w' ⟨he, h⟩ => ⟨he, .inr (h.elim (fun h => ⟨o, B, hB, hG, h⟩) (fun h => ⟨some tx, B, hB, hG2, h⟩))⟩
theorem T3.open (h : T3 n0 R fb N room y fk ft G w) (hN : N < 800) (hs : ∀ o, G o → sizeO o ≤ 50000) : Calls Tryz.prog 14 #[.pointer (some ⟨fb, 0, none⟩)] w fun e w' => Op5 e ∧ T4 n0 R fb (N + 2) room y fk ft G w' := by
  have hsz : ∀ o, G o → ∀ s, o = some s → s.size ≤ 100000 := fun o hG s e => by
    subst e
    have h1 : s.size ≤ 50000 := hs _ hG
    omega
  rcases h with ⟨o, B, hB, hG, hP⟩ | ⟨o, B, hB, hG, hP⟩
  · exact (plu_open hP (hsz o hG)).mono fun e w' ⟨he, h⟩ => ⟨he, .inl ⟨o, B, by omega, hG, h⟩⟩
  · exact (stu_open hP (by omega) (hsz o hG)).mono fun e w' ⟨he, h⟩ => ⟨he, .inr ⟨o, B + 2, by omega, hG, h⟩⟩
theorem T4.none (h : T4 n0 R fb N room y fk ft G w) (hN : N < 800) : Calls Tryz.prog 7 #[.pointer (some ⟨fb, 0, none⟩), .slice none 0 0] w fun e w' => e = .returned (.tuple #[]) ∧ T5 n0 R fb N room G w' := by
  rcases h with ⟨o, B, hB, hG, hP⟩ | ⟨o, B, hB, hG, hP⟩
  · exact (PluR.none hP (by omega)).mono fun e w' ⟨he, h⟩ => ⟨he, o, _, B, hB, hG, h⟩
  · exact (AwkR.none hP (by omega)).mono fun e w' ⟨he, h⟩ => ⟨he, o, _, B, hB, hG, h⟩
theorem T5.crash (h : T5 n0 R fb N room G w) (hN : N < 800) (k2 n2 : Int) : Calls Tryz.prog 12 #[.pointer (some ⟨fb, 0, none⟩), .int .u64 k2, .int .i64 n2] w fun e w' => e = .returned (.tuple #[]) ∧ T6 n0 R fb (N + 1) room G w' := by
  obtain ⟨o, U, B, hB, hG, hP⟩ := h
  exact (hP.crash (by omega) k2 n2).mono fun e w' ⟨he, h⟩ => ⟨he, o, B + 1, by omega, hG, h⟩
theorem T6.up (h : T6 n0 R fb N room G w) : Calls Tryz.prog 13 #[.pointer (some ⟨fb, 0, none⟩)] w fun e w' => e = .returned (.bool true) ∧ T7 n0 R fb N room G w' := by
  obtain ⟨o, B, hB, hG, hP⟩ := h
  exact hP.up.mono fun e w' ⟨he, h⟩ => ⟨he, o, B, hB, hG, h⟩
/-- What a place may hold: the refs that were, or those that were coming. -/
def Gd (hd1 : ByteArray) (l1 : List Rf.Rf) (hd2 : ByteArray) (l2 : List Rf.Rf) (o : Option ByteArray) : Prop := sizeO o ≤ 50000 ∧ (opP o = some (hd1.data.toList, l1) ∨ opP o = some (hd2.data.toList, l2))
/-- The refs that are told at a round's end. -/
def Tld (n0 : Nat) (R : (Nat → Prop) → World → Prop) (fb N room : Nat) (hd : ByteArray) (l : List Rf.Rf) (w : World) : Prop := ∃ o B, B ≤ N ∧ sizeO o ≤ 50000 ∧ opP o = some (hd.data.toList, l) ∧ AtR n0 R fb B room o (sizeO o) w
theorem Tld.side {hd : ByteArray} {l : List Rf.Rf} (h : Tld n0 R fb N room hd l w) : ∃ A, R A w := by
  obtain ⟨o, B, _, _, _, hP⟩ := h
  exact hP.side
theorem Tld.below {hd : ByteArray} {l : List Rf.Rf} (h : Tld n0 R fb N room hd l w) (hb : Below w.heap.size w w') : Tld n0 R fb N room hd l w' := by
  obtain ⟨o, B, h1, h2, h3, hP⟩ := h
  exact ⟨o, B, h1, h2, h3, hP.below hb⟩
theorem Tld.chg {hd : ByteArray} {l : List Rf.Rf} (h : Tld n0 R fb N room hd l w) (hc : Chg n0 R R' w w') : Tld n0 R' fb N room hd l w' := by
  obtain ⟨o, B, h1, h2, h3, hP⟩ := h
  exact ⟨o, B, h1, h2, h3, hP.chg hc⟩
theorem AtR.tell {B U : Nat} {o : Option ByteArray} {hd : ByteArray} {l : List Rf.Rf} (hX : AtR n0 R fb B room o U w) (hB : B < 880) (hop : opP o = some (hd.data.toList, l)) (hso : sizeO o ≤ 50000) : Calls Tryz.prog 14 #[.pointer (some ⟨fb, 0, none⟩)] w fun e w' => ∃ a c, e = .returned (.tuple #[.agg #[.string hd, .slice a l.length c], .int .i64 0]) ∧ Rf.RRow w' (.slice a l.length c) l ∧ AtR n0 R fb B room o U w' := by
  refine (hX.open (by omega) (fun s hs => by rw [hs] at hso; have h1 : s.size ≤ 50000 := hso; omega)).mono fun e w' ⟨v2, he, hr, hb2⟩ => ?_
  rw [hop] at he hr
  have hr' : Rf.RRow w' v2 l := hr
  obtain ⟨a, c, rfl⟩ := Kq.row_form3 hr'
  have e2 : rdH (some (hd.data.toList, l)) = hd := Cb.bs_data _
  rw [e2] at he
  exact ⟨a, c, he, hr', hX.below hb2⟩
theorem T7.open {hd1 hd2 : ByteArray} {l1 l2 : List Rf.Rf} (h : T7 n0 R fb N room (Gd hd1 l1 hd2 l2) w) (hN : N < 800) : Calls Tryz.prog 14 #[.pointer (some ⟨fb, 0, none⟩)] w fun e w' => ∃ hd l a c, ((hd = hd1 ∧ l = l1) ∨ (hd = hd2 ∧ l = l2)) ∧ e = .returned (.tuple #[.agg #[.string hd, .slice a l.length c], .int .i64 0]) ∧ Rf.RRow w' (.slice a l.length c) l ∧ Tld n0 R fb N room hd l w' := by
  obtain ⟨o, B, hB, ⟨hs, hG⟩, hP⟩ := h
  rcases hG with hG | hG
  · exact (hP.tell (by omega) hG hs).mono fun e w' ⟨a, c, he, hr, hX⟩ => ⟨hd1, l1, a, c, .inl ⟨rfl, rfl⟩, he, hr, o, B, hB, hs, hG, hX⟩
  · exact (hP.tell (by omega) hG hs).mono fun e w' ⟨a, c, he, hr, hX⟩ => ⟨hd2, l2, a, c, .inr ⟨rfl, rfl⟩, he, hr, o, B, hB, hs, hG, hX⟩
end
theorem below_drew (w : World) : Below w.heap.size w w.drew := ⟨rfl, rfl, rfl, Nat.le_refl _, fun _ _ => rfl⟩
theorem AtR.ok {n0 : Nat} {R : (Nat → Prop) → World → Prop} {fb B room U : Nat} {o : Option ByteArray} {w : World} (h : AtR n0 R fb B room o U w) : Kq.Okn n0 w := by
  obtain ⟨A, b, _, h2, _⟩ := h
  exact h2.ok
theorem PreR.lim {n0 : Nat} {R : (Nat → Prop) → World → Prop} {fb B room U s : Nat} {o : Option ByteArray} {w : World} (h : PreR n0 R fb B room o U s w) (hB : B < 890) : s < 900000 := by
  rcases h with ⟨_, h2, _⟩ | ⟨S, _, _, _, h4, A, b, k1, _, k3, _⟩
  · omega
  · have := (k3.lim (by omega)).2.2.1
    omega
theorem chkL_ne7 : ∀ (l : List Rf.Rf) (p : Option ByteArray), Rf.chkL p l ≠ 7
  | [], _ => by unfold Rf.chkL; decide
  | x :: r, p => by
    unfold Rf.chkL
    split
    · exact chkL_ne7 r _
    · unfold Rf.stepR
      repeat' split
      all_goals decide
theorem chkR_ne7 (hd : ByteArray) (l : List Rf.Rf) : Rf.chkR hd l ≠ 7 := by
  unfold Rf.chkR
  split
  · decide
  · split
    · exact chkL_ne7 l none
    · decide
/-- The inner loop's states: power is there; it fell. -/
def InA (W : World) (fb g6 gx : Nat) (cs : Array Value) (g9 b : Nat) (t k n : Int) (j : Nat) (w : World) : Prop := ∃ (o : Option ByteArray) (U bb : Nat) (hd : ByteArray) (v v2 : Value) (l : List Rf.Rf), PlnR W.heap.size (R3 W g6 hd v l gx cs g9 hd v2 l) fb bb 1048576 o U t k n w ∧ opP o = some (hd.data.toList, l) ∧ sizeO o ≤ 50000 ∧ l.length ≤ 1000 ∧ U ≤ 50000 * (j + 1) ∧ bb ≤ b + 4 * j
def InB (W : World) (fb g6 gx : Nat) (cs : Array Value) (g9 b : Nat) (w : World) : Prop := ∃ (o : Option ByteArray) (tx : ByteArray) (bb : Nat) (hd hd2 : ByteArray) (v v2 : Value) (l l2 : List Rf.Rf), StrR W.heap.size (R3 W g6 hd v l gx cs g9 hd2 v2 l2) fb bb 1048576 o tx w ∧ opP o = some (hd.data.toList, l) ∧ sizeO o ≤ 50000 ∧ l.length ≤ 1000 ∧ opP (some tx) = some (hd2.data.toList, l2) ∧ tx.size ≤ 50000 ∧ l2.length ≤ 1000 ∧ bb ≤ b + 16
/-- Behind the inner loop. -/
def MidI (W : World) (fb g6 gx : Nat) (cs : Array Value) (g9 N : Nat) (y fk ft : Int) (w : World) : Prop := ∃ hd1 v1 l1 hd2 v2 l2, l1.length ≤ 1000 ∧ l2.length ≤ 1000 ∧ T1 W.heap.size (R3 W g6 hd1 v1 l1 gx cs g9 hd2 v2 l2) fb N 1048576 y fk ft (Gd hd1 l1 hd2 l2) w
theorem InA.mid {W : World} {fb g6 gx : Nat} {cs : Array Value} {g9 b : Nat} {t k n : Int} {j : Nat} {w : World} (h : InA W fb g6 gx cs g9 b t k n j w) (hj : j ≤ 4) : MidI W fb g6 gx cs g9 (b + 16) t k n w := by
  obtain ⟨o, U, bb, hd, v, v2, l, hP, hop, hso, hl, hU, hbb⟩ := h
  exact ⟨hd, v, l, hd, v2, l, hl, hl, .inl ⟨o, U, bb, by omega, ⟨hso, .inl hop⟩, hP⟩⟩
theorem InB.mid {W : World} {fb g6 gx : Nat} {cs : Array Value} {g9 b : Nat} {t k n : Int} {w : World} (h : InB W fb g6 gx cs g9 b w) : MidI W fb g6 gx cs g9 (b + 16) t k n w := by
  obtain ⟨o, tx, bb, hd, hd2, v, v2, l, l2, hP, hop, hso, hl, hop2, hsx, hl2, hbb⟩ := h
  exact ⟨hd, v, l, hd2, v2, l2, hl, hl2, .inr ⟨o, tx, bb, by omega, ⟨hso, .inl hop⟩, ⟨hsx, .inr hop2⟩, hP⟩⟩
theorem stab0 {W : World} : Stab (fun A w => (∀ g, A g → W.heap.size ≤ g) ∧ Below W.heap.size W w) := fun _ _ _ _ h hA hO =>
  ⟨fun g hg => (hA g hg).elim (h.1 g) (fun e => Nat.le_trans h.2.size e), h.2.trans (hO.below h.2.size h.1)⟩
end G
end Go.Proofs.YtknmmlfdlfioiaaGreatDoor.Kf
namespace Go.Proofs.YtknmmlfdlfioiaaGreatDoor.Kf
open Vc Go.RowKit Go.Shelf
namespace G
open Kq (mainP opP sizeO RsRow RsOK RsE rdH rdE rdL frB)
set_option maxHeartbeats 12800000 in
set_option maxRecDepth 100000 in
theorem falls_law (v0 v1 : Value) (rs : List RsE) (fs : List (Int × Int × Int)) (W : World) (h0 : Kq.Law0 W) (hr : RsRow W v0 rs) (hf : FsRow W v1 fs) :
    Calls Tryz.prog 3 #[v0, v1] W fun e w' => e = .returned (.bool true) ∧ Below W.heap.size W w' := by
  obtain ⟨va, vc, rfl, hcells⟩ := hr
  obtain ⟨ua, uc, rfl, hfcells⟩ := hf
  obtain ⟨nr, hnr⟩ : ∃ n, rs.length = n := ⟨_, rfl⟩
  obtain ⟨nf, hnf⟩ : ∃ n, fs.length = n := ⟨_, rfl⟩
  have HNR := hideIt hnr
  have HNF := hideIt hnf
  have HR : Hid (∀ i x, rs[i]? = some x → ∃ b o, va = some ⟨b, o, none⟩ ∧ RsOK x ∧ Rf.RRow W x.v x.l ∧ ∀ X, Below W.heap.size W X → X.cell? ⟨b, o + i * 2, none⟩ = some (.string x.hd) ∧ X.cell? ⟨b, o + i * 2 + 1, none⟩ = some x.v) := hideIt (fun i x hi => by
    have hil := (List.getElem?_eq_some_iff.1 hi).1
    obtain ⟨b, o, e, hlt, h3⟩ := hcells (by omega)
    obtain ⟨c0, c1, c2, c3⟩ := h3 i x hi
    exact ⟨b, o, e, c3, c2, fun X hX => ⟨by rw [hX.cell (p := ⟨b, o + i * 2, none⟩) hlt]; exact c0, by rw [hX.cell (p := ⟨b, o + i * 2 + 1, none⟩) hlt]; exact c1⟩⟩)
  have HFL : Hid (∀ i x, fs[i]? = some x → ∃ b o, ua = some ⟨b, o, none⟩ ∧ U64 x ∧ ∀ X, Below W.heap.size W X → X.cell? ⟨b, o + i * 3, none⟩ = some (.int .i64 x.1) ∧ X.cell? ⟨b, o + i * 3 + 1, none⟩ = some (.int .u64 x.2.1) ∧ X.cell? ⟨b, o + i * 3 + 2, none⟩ = some (.int .i64 x.2.2)) := hideIt (fun i x hi => by
    have hil := (List.getElem?_eq_some_iff.1 hi).1
    obtain ⟨b, o, e, hlt, h3⟩ := hfcells (by omega)
    obtain ⟨c0, c1, c2, c3⟩ := h3 i x hi
    exact ⟨b, o, e, c3, fun X hX => ⟨by rw [hX.cell (p := ⟨b, o + i * 3, none⟩) hlt]; exact c0, by rw [hX.cell (p := ⟨b, o + i * 3 + 1, none⟩) hlt]; exact c1, by rw [hX.cell (p := ⟨b, o + i * 3 + 2, none⟩) hlt]; exact c2⟩⟩)
  have ho1 : Kq.Okn W.heap.size W := ⟨h0.kat, h0.max, h0.pos, Nat.le_refl _⟩
  obtain ⟨fb, hfb⟩ : ∃ fb, W.heap.size = fb := ⟨_, rfl⟩
  have HP : Hid (Calls Tryz.prog 4 #[] W fun e w' => e = .returned (.pointer (some ⟨fb, 0, none⟩)) ∧ AtR W.heap.size (R1 W w'.heap.size mainP (.slice none 0 0) []) fb 0 1048576 none 0 (w'.alloc (.cells #[.string mainP, .slice none 0 0] 28))) := hideIt ((Kq.place_any ho1).mono fun e w' ⟨he, h1, h2⟩ => by
    rw [hfb] at he h1
    have hA0 : AtR W.heap.size (fun A w => (∀ g, A g → W.heap.size ≤ g) ∧ Below W.heap.size W w) fb 0 1048576 none 0 w' := ⟨_, 0, Nat.le_refl _, by rw [hfb]; exact h1, stab0, fun g hg => by rw [hfb]; exact Nat.le_of_eq hg.symm, h2⟩
    exact ⟨he, hA0.chg (chg_new h2.size stab1 stab0 (fun A ha hR => ⟨hR.1, hR.2, h2.size, alloc_at rfl, ha, Rf.VRow.of_row (Rf.own_nil _ 0 65 2), fun g off sp n c hn e => by cases e⟩))⟩)
  have HAW : Hid (∀ (R : (Nat → Prop) → World → Prop) B o U X, AtR W.heap.size R fb B 1048576 o U X → Calls Tryz.prog 5 #[] X fun e w' => e = .returned (.bool true) ∧ AtR W.heap.size R fb B 1048576 o U w') := hideIt (fun R B o U X hX => by
    have ho := hX.ok
    exact (Kq.awake_any (n0 := X.heap.size) ⟨ho.kat, ho.max, by have := ho.z0; have := ho.nw; omega, Nat.le_refl _⟩).mono fun e w' ⟨he, hb⟩ => ⟨he, hX.below hb⟩)
  have HEND : Hid (∀ g6 hd v l B o U X, AtR W.heap.size (R1 W g6 hd v l) fb B 1048576 o U X → Below W.heap.size W X) := hideIt (fun g6 hd v l B o U X hX => by
    obtain ⟨A, hA⟩ := hX.side
    exact hA.bel)
  have hop0 : opP none = some (mainP.data.toList, []) := rfl
  have HOP0 := hideIt hop0
  have HFB := hideIt hfb
  rw [hnr, hnf]
  clear hnr hnf hcells hfcells ho1 hfb h0 hop0
  go_enter Tryz.func3, Tryz.ntmps3
  go_wp2_with (first
    | (go_at_call 4; refine HP.out.mono ?_; rintro e w1 ⟨rfl, a0⟩; obtain ⟨g6, hg6⟩ : ∃ g, w1.heap.size = g := ⟨_, rfl⟩; have A0 := hideIt a0; clear a0)
    | (go_at_call 5; refine (HAW.out _ _ _ _ _ A0.out).mono ?_; rintro e w2 ⟨rfl, a2⟩; have A2 := hideIt a2; clear a2))
  rw [hg6] at *
  clear hg6
  go_loopw [7] (fun tt wr => ∃ (i b U : Nat) (o : Option ByteArray) (hd : ByteArray) (v : Value) (l : List Rf.Rf), i ≤ nf ∧ i ≤ 6 ∧ tt = .int .i64 i ∧ b ≤ 30 * i ∧ U ≤ 50000 ∧ AtR W.heap.size (R1 W g6 hd v l) fb b 1048576 o U wr ∧ opP o = some (hd.data.toList, l) ∧ sizeO o ≤ 50000 ∧ l.length ≤ 1000) (fun tt _ => nf - (intOf tt).toNat)
  case atStart => exact ⟨0, 0, 0, none, mainP, _, [], by omega, by omega, rfl, by omega, by omega, A2.out, HOP0.out, by decide, by decide⟩
  case round =>
    obtain ⟨i, b, U, o, hd, v, l, hi, hi6, rfl, hbi, hU, ha, hop, hso, hll⟩ := hrel
    by_cases hc : i < nf ∧ i < 6
    · obtain ⟨hlt, hl6⟩ := hc
      have i1 : (i : Int) < (nf : Int) := by omega
      have d1 : decide ((i : Int) < (nf : Int)) = true := decide_eq_true i1
      have i2 : (i : Int) < 6 := by omega
      have d2 : decide ((i : Int) < 6) = true := decide_eq_true i2
      have i3 : (0 : Int) ≤ (i : Int) := by omega
      obtain ⟨⟨fa, fk, ft⟩, hxi⟩ : ∃ x, fs[i]? = some x := ⟨fs[i]'(by rw [HNF.out]; exact hlt), by simp⟩
      obtain ⟨b0, o0, e0, hkb, hcc⟩ := HFL.out i _ hxi
      have HKB : Hid (0 ≤ fk ∧ fk ≤ 18446744073709551615) := hideIt hkb
      clear hkb
      subst e0
      obtain ⟨As, hAs⟩ := ha.side
      obtain ⟨c0, c1, c2⟩ := hcc wr hAs.bel
      simp only at c0 c1 c2
      obtain ⟨gx, hgx⟩ : ∃ g, wr.heap.size = g := ⟨_, rfl⟩
      have hwn : W.heap.size ≤ wr.heap.size := hAs.bel.size
      have hg6l : g6 < wr.heap.size := Vc.block_lt hAs.was.box
      obtain ⟨X8, hX8⟩ : ∃ X, wr.alloc (.cells #[.int .i64 fa, .int .u64 fk, .int .i64 ft] 32) = X := ⟨_, rfl⟩
      have a8 : AtR W.heap.size (R2 W g6 hd v l gx #[.int .i64 fa, .int .u64 fk, .int .i64 ft]) fb b 1048576 o U X8 := by
        rw [← hX8, ← hgx]
        exact ha.chg (chg_x' hwn hg6l)
      have p8 : X8.heap[gx]? = some (.cells #[.int .i64 fa, .int .u64 fk, .int .i64 ft] 32 (0, 0)) := by rw [← hX8, ← hgx]; exact alloc_at rfl
      have x0 := Vc.cellAt (i := 0) p8 rfl
      have y0 := thawAt p8 0
      have A8 := hideIt a8
      have HX8 := hideIt hX8
      have HOPO := hideIt hop
      clear hAs As hcc hxi ha a8 hwn hg6l hop
      have HZ0 : Hid (∀ (z z' : Int) X, AtR W.heap.size (R2 W g6 hd v l gx #[.int .i64 z, .int .u64 fk, .int .i64 ft]) fb b 1048576 o U X → AtR W.heap.size (R2 W g6 hd v l gx #[.int .i64 z', .int .u64 fk, .int .i64 ft]) fb b 1048576 o U (X.setCell ⟨gx, 0, none⟩ (.int .i64 z'))) := hideIt (fun z z' X hX => hX.chg (chg_at.resolve_right (fun hn => by obtain ⟨A, hA⟩ := hX.side; exact hn A hA)))
      go_upto_if 35 with fail
      go_cut [7] from 19 to 121 (fun qq wx => qq = .int .i64 i ∧ ∃ z : Int, 0 ≤ z ∧ AtR W.heap.size (R2 W g6 hd v l gx #[.int .i64 z, .int .u64 fk, .int .i64 ft]) fb b 1048576 o U wx)
      case first =>
        by_cases hz : fa < 0
        · have d3 : decide (fa < 0) = true := decide_eq_true hz
          go_wp2
          go_meet
          exact ⟨rfl, 0, by omega, HZ0.out _ _ _ A8.out⟩
        · have d3 : decide (fa < 0) = false := decide_eq_false hz
          go_wp2
          go_meet
          exact ⟨rfl, fa, by omega, A8.out⟩
      case rest =>
      obtain ⟨rfl, z, hz, h1⟩ := hcut
      obtain ⟨s, hs⟩ := h1.pre
      obtain ⟨As, hAs⟩ := hs.side
      have q1 := hAs.xb
      have hd1 := hs.below (below_drew _)
      have q2 : wc.drew.heap[gx]? = some (.cells #[.int .i64 z, .int .u64 fk, .int .i64 ft] 32 (0, 0)) := q1
      have x1 := Vc.cellAt (i := 0) q1 rfl
      have x2 := Vc.cellAt (i := 0) q2 rfl
      have y1 := thawAt q1 0
      have y2 := thawAt q2 0
      have hsl : s < 900000 := hs.lim (by omega)
      have HST : Hid (∀ (R : (Nat → Prop) → World → Prop) X, PreR W.heap.size R fb b 1048576 o U s X → Calls Tryz.prog 6 #[.pointer (some ⟨fb, 0, none⟩)] X fun e w' => e = .returned (.int .i64 (s : Int)) ∧ w' = X) := hideIt (fun R X hX => hX.steps)
      have S1 := hideIt hs
      have S2 := hideIt hd1
      clear h1 hs hAs As q1 q2 hd1
      go_upto_region 11 with fail
      go_cut [7] from 19 to 121 (fun qq wx => qq = .int .i64 i ∧ ∃ y : Int, (s : Int) ≤ y ∧ PreR W.heap.size (R2 W g6 hd v l gx #[.int .i64 y, .int .u64 fk, .int .i64 ft]) fb b 1048576 o U s wx)
      case first =>
        go_region_with (first
          | (go_at_call 6; refine (HST.out _ _ S1.out).mono ?_; rintro e w3 ⟨rfl, hw⟩; obtain rfl := hw.symm)
          | (go_at_call 6; refine (HST.out _ _ S2.out).mono ?_; rintro e w3 ⟨rfl, hw⟩; obtain rfl := hw.symm))
        all_goals go_wp2
        all_goals go_meet
        all_goals (
          have e6 : IntKind.i64.wrap ((s : Int) + z.tmod 10) = (s : Int) + z % 10 := by
            rw [Int.tmod_eq_emod_of_nonneg hz]
            have k0 : 0 ≤ z % 10 := by omega
            have k1 : z % 10 < 10 := by omega
            rw [IntKind.wrap_i64]
            omega
          rw [e6]
          exact ⟨rfl, (s : Int) + z % 10, by omega, (S1.out.chg (chg_at.resolve_right (fun hn => by obtain ⟨A, hA⟩ := S1.out.side; exact hn A hA))).below (below_drew _)⟩)
      case rest =>
      obtain ⟨rfl, y, hy, h1⟩ := hcut
      have HPL : Hid (∀ (R : (Nat → Prop) → World → Prop) X (ga c : Nat), PreR W.heap.size R fb b 1048576 o U s X → X.heap[ga]? = some (.cells #[.int .i64 y, .int .u64 fk, .int .i64 ft] 32 (0, 0)) → Calls Tryz.prog 7 #[.pointer (some ⟨fb, 0, none⟩), .slice (some ⟨ga, 0, none⟩) 1 c] X fun e w' => e = .returned (.tuple #[]) ∧ PlnR W.heap.size R fb b 1048576 o U y fk ft w') := hideIt (fun R X ga c hX hg => hX.plan hy hg)
      obtain ⟨As, hAs⟩ := h1.side
      have c0 := Vc.cellAt (i := 0) hAs.xb rfl
      have c1 := Vc.cellAt (i := 1) hAs.xb rfl
      have c2 := Vc.cellAt (i := 2) hAs.xb rfl
      obtain ⟨na, nq, nc, hv⟩ := hAs.r1.was.form
      have HSD : Hid (∀ X, PlnR W.heap.size (R2 W g6 hd v l gx #[.int .i64 y, .int .u64 fk, .int .i64 ft]) fb b 1048576 o U y fk ft X → X.heap[g6]? = some (.cells #[.string hd, v] 28 (0, 0)) ∧ W.heap.size ≤ X.heap.size ∧ g6 < X.heap.size ∧ gx < X.heap.size) := hideIt (fun X hX => by
        obtain ⟨A, hA⟩ := hX.side
        exact ⟨hA.r1.was.box, hA.r1.bel.size, Vc.block_lt hA.r1.was.box, Vc.block_lt hA.xb⟩)
      have S3 := hideIt h1
      have HYS := hideIt hy
      clear h1 hAs As hy
      go_upto_block 2 with (go_at_call 7; refine (HPL.out _ _ _ _ (S3.out.below (Rf.new_below _ _)) (alloc_at rfl)).mono ?_; rintro e w4 ⟨rfl, p4⟩; obtain ⟨k4, k5, k6, k7⟩ := HSD.out _ p4; rw [hv] at k4; have m0 := Vc.cellAt (i := 0) k4 rfl; have m1 := Vc.cellAt (i := 1) k4 rfl; obtain ⟨g9, hg9⟩ : ∃ g, w4.heap.size = g := ⟨_, rfl⟩; obtain ⟨X5, hX5⟩ : ∃ X, w4.alloc (.cells #[.string hd, .slice na nq nc] 28) = X := ⟨_, rfl⟩; have P5 : Hid (PlnR W.heap.size (R3 W g6 hd v l gx #[.int .i64 y, .int .u64 fk, .int .i64 ft] g9 hd v l) fb b 1048576 o U y fk ft X5) := hideIt (by rw [← hX5, ← hg9, ← hv]; exact p4.chg (chg_come k5 k6 k7)); clear p4 k4 k5 k6 k7)
      have HP5 := hideIt P5.out
      have HRF : Hid (∀ X (hd : ByteArray) (v : Value) (l : List Rf.Rf), Rf.RRow X v l → l.length ≤ 1000 → Calls Tryz.prog 11 #[.agg #[.string hd, v]] X fun e w' => ∃ ma mc, e = .returned (.agg #[.string hd, .slice ma l.length mc]) ∧ Rf.RRow w' (.slice ma l.length mc) l ∧ Below X.heap.size X w' ∧ ∀ k, (Value.slice ma l.length mc).ownBlock = some k → X.heap.size ≤ k) := hideIt (fun X hd v l hX hl => (Rf.ref_own hd v l X hX (by omega)).mono fun e w' ⟨v3, he, hr', hb', hw'⟩ => by
        obtain ⟨ma, mc, rfl⟩ := Kq.row_form3 hr'
        exact ⟨ma, mc, he, hr', hb', hw'⟩)
      go_cut [7, 10, 11, 12] from 19 to 121 (fun qq xa xb xc wx => qq = .int .i64 i ∧ MidI W fb g6 gx #[.int .i64 y, .int .u64 fk, .int .i64 ft] g9 (b + 16) y fk ft wx)
      case first =>
        go_wp2_with fail
        go_loopw [10] (fun tt wi => ∃ j : Nat, j ≤ nr ∧ j ≤ 4 ∧ tt = .int .i64 j ∧ (InA W fb g6 gx #[.int .i64 y, .int .u64 fk, .int .i64 ft] g9 b y fk ft j wi ∨ InB W fb g6 gx #[.int .i64 y, .int .u64 fk, .int .i64 ft] g9 b wi)) (fun tt _ => nr - (intOf tt).toNat)
        case atStart => exact ⟨0, by omega, by omega, rfl, .inl ⟨o, U, b, hd, v, v, l, HP5.out, HOPO.out, hso, hll, by omega, by omega⟩⟩
        case round =>
          obtain ⟨j, hj, hj4, rfl, hst⟩ := hrel
          by_cases hcj : j < nr ∧ j < 4
          · obtain ⟨hlt, hl4⟩ := hcj
            have e1 : (j : Int) < (nr : Int) := by omega
            have f1 : decide ((j : Int) < (nr : Int)) = true := decide_eq_true e1
            have e2 : (j : Int) < 4 := by omega
            have f2 : decide ((j : Int) < 4) = true := decide_eq_true e2
            have e3 : (0 : Int) ≤ (j : Int) := by omega
            rcases hst with hst | hst
            · obtain ⟨o1, U1, bb, hd1, v1, v2, l1, hP, hop1, hso1, hl1, hU1, hbb⟩ := hst
              obtain ⟨n1, c1, rfl⟩ : ∃ a c, v1 = .slice a l1.length c := (by obtain ⟨A, hA⟩ := hP.side; exact Kq.row_form3 hA.r2.r1.was.row)
              obtain ⟨n2, c2, rfl⟩ : ∃ a c, v2 = .slice a l1.length c := (by obtain ⟨A, hA⟩ := hP.side; exact Kq.row_form3 hA.come.row)
              obtain ⟨⟨xh, xv, xl⟩, hxi⟩ : ∃ x, rs[j]? = some x := ⟨rs[j]'(by rw [HNR.out]; exact hlt), by simp⟩
              obtain ⟨b0, o0, e0, hok, hlow, hcc⟩ := HR.out j _ hxi
              subst e0
              obtain ⟨As, hAs⟩ := hP.side
              obtain ⟨s0, s1⟩ := hcc wr hAs.r2.r1.bel
              simp only at s0 s1 hlow
              obtain ⟨xa, xc, rfl⟩ := Kq.row_form3 hlow
              obtain ⟨q2, hq2⟩ : ∃ q, xl.take 260 = q := ⟨_, rfl⟩
              have HQL : Hid (q2.length ≤ 260) := hideIt (by rw [← hq2, List.length_take]; omega)
              have HCU : Hid (Calls Tryz.prog 9 #[.agg #[.string xh, .slice xa xl.length xc]] wr fun e w' => ∃ ra rc, e = .returned (.agg #[.string xh, .slice ra q2.length rc]) ∧ Rf.RRow W (.slice ra q2.length rc) q2 ∧ Below wr.heap.size wr w') := hideIt ((cut_at xh _ xl wr (Rf.VRow.below hlow hAs.r2.r1.bel)).mono fun e w' ⟨v', he, hr', hb'⟩ => by
                have h5 := hr' W hlow
                rw [hq2] at h5
                obtain ⟨ra, rc, rfl⟩ := Kq.row_form3 h5
                exact ⟨ra, rc, he, h5, hb'⟩)
              have HIT : Hid (∀ X ra rc, PlnR W.heap.size (R3 W g6 hd1 (.slice n1 l1.length c1) l1 gx #[.int .i64 y, .int .u64 fk, .int .i64 ft] g9 hd1 (.slice n2 l1.length c2) l1) fb bb 1048576 o1 U1 y fk ft X → Rf.RRow W (.slice ra q2.length rc) q2 → PlnR W.heap.size (R4 W g6 hd1 (.slice n1 l1.length c1) l1 gx #[.int .i64 y, .int .u64 fk, .int .i64 ft] g9 hd1 (.slice n2 l1.length c2) l1 X.heap.size xh (.slice ra q2.length rc) q2) fb bb 1048576 o1 U1 y fk ft (X.alloc (.cells #[.string xh, .slice ra q2.length rc] 37))) := hideIt (fun X ra rc hX hr => by
                obtain ⟨A, hA⟩ := hX.side
                exact hX.chg (chg_it hA.r2.r1.bel.size (Vc.block_lt hA.r2.r1.was.box) (Vc.block_lt hA.r2.xb) (Vc.block_lt hA.come.box) hr))
              have HLO : Hid (W.heap.size ≤ g6 ∧ W.heap.size ≤ g9 ∧ g9 ≠ g6) := hideIt ⟨hAs.r2.r1.lo6, hAs.lo9, hAs.ne6⟩
              have HBK : Hid (∀ ra rc gr A X, (R4 W g6 hd1 (.slice n1 l1.length c1) l1 gx #[.int .i64 y, .int .u64 fk, .int .i64 ft] g9 hd1 (.slice n2 l1.length c2) l1 gr xh (.slice ra q2.length rc) q2) A X → X.heap[gr]? = some (.cells #[.string xh, .slice ra q2.length rc] 37 (0, 0)) ∧ Rf.RRow X (.slice ra q2.length rc) q2 ∧ X.heap[g6]? = some (.cells #[.string hd1, .slice n1 l1.length c1] 28 (0, 0)) ∧ X.heap[g9]? = some (.cells #[.string hd1, .slice n2 l1.length c2] 28 (0, 0)) ∧ W.heap.size ≤ X.heap.size) := hideIt (fun ra rc gr A X hA => ⟨hA.it.box, hA.it.row, hA.r3.r2.r1.was.box, hA.r3.come.box, hA.r3.r2.r1.bel.size⟩)
              have HDD := hideIt hP.dead
              have HPP := hideIt hP
              have HOPW := hideIt hop1
              have HSO := hideIt hso1
              have HLL := hideIt hl1
              have HB4 : Hid (bb + 4 ≤ b + 4 * (j + 1) ∧ bb + 4 ≤ b + 16 ∧ bb < 860 ∧ U1 + 50000 ≤ 50000 * (j + 1 + 1) ∧ U1 + 50000 ≤ 1048576) := hideIt ⟨by omega, by omega, by omega, by omega, by omega⟩
              clear hP hop1 hso1 hl1 hU1 hbb hAs As hcc hlow hok hxi hq2
              by_cases hz : Rf.chkR xh q2 = 0
              · have HSV : Hid (∀ ra rc gr X, PlnR W.heap.size (R4 W g6 hd1 (.slice n1 l1.length c1) l1 gx #[.int .i64 y, .int .u64 fk, .int .i64 ft] g9 hd1 (.slice n2 l1.length c2) l1 gr xh (.slice ra q2.length rc) q2) fb bb 1048576 o1 U1 y fk ft X → Calls Tryz.prog 10 #[.pointer (some ⟨fb, 0, none⟩), .agg #[.string xh, .slice ra q2.length rc]] X fun e w' => (e = .returned (.int .i64 0) ∧ PlnR W.heap.size (R4 W g6 hd1 (.slice n1 l1.length c1) l1 gx #[.int .i64 y, .int .u64 fk, .int .i64 ft] g9 hd1 (.slice n2 l1.length c2) l1 gr xh (.slice ra q2.length rc) q2) fb (bb + 4) 1048576 (some (frB xh q2)) (U1 + (frB xh q2).size) y fk ft w') ∨ (e = .returned (.int .i64 7) ∧ StrR W.heap.size (R4 W g6 hd1 (.slice n1 l1.length c1) l1 gx #[.int .i64 y, .int .u64 fk, .int .i64 ft] g9 hd1 (.slice n2 l1.length c2) l1 gr xh (.slice ra q2.length rc) q2) fb (bb + 4) 1048576 o1 (frB xh q2) w')) := hideIt (fun ra rc gr X hX => by
                  obtain ⟨A, hA⟩ := hX.side
                  exact (hX.save (by have := HB4.out; omega) xh _ q2 hA.it.row (by have := HQL.out; omega) (by have := HB4.out; omega)).mono fun e w' h => h.elim (fun h => absurd hz h.1) (fun h => h.2))
                have HFO : Hid (opP (some (frB xh q2)) = some (xh.data.toList, q2)) := hideIt (Kq.rd_fr hz)
                have HFS : Hid ((frB xh q2).size ≤ 50000) := hideIt (Kq.frB_size hz)
                generalize frB xh q2 = fr at HSV HFO HFS
                clear hz
                go_upto_region 17 with (go_at_call 8; refine HDD.out.mono ?_; rintro e w3 ⟨rfl, hw⟩; obtain rfl := hw.symm)
                go_upto_region 18 with (go_at_call 9; refine HCU.out.mono ?_; rintro e w3 ⟨ra, rc, rfl, hr3, hb3⟩; have p3 := HIT.out _ _ _ (HPP.out.below hb3) hr3; obtain ⟨gr, hgr⟩ : ∃ g, w3.heap.size = g := ⟨_, rfl⟩; obtain ⟨X3, hX3⟩ : ∃ X, w3.alloc (.cells #[.string xh, .slice ra q2.length rc] 37) = X := ⟨_, rfl⟩; rw [hgr, hX3] at p3; obtain ⟨A3, a3⟩ := p3.side; obtain ⟨k0, k1, k2, k3, k4⟩ := HBK.out _ _ _ _ _ a3; have r0 := Vc.cellAt (i := 0) k0 rfl; have r1 := Vc.cellAt (i := 1) k0 rfl; have P3 := hideIt p3; clear hr3 hb3 p3 a3 A3 k0 k1 k2 k3 k4)
                go_upto_region 19 with (go_at_call 10; refine (HSV.out _ _ _ _ P3.out).mono ?_; rintro e w5 (⟨rfl, p5⟩ | ⟨rfl, p5⟩))
                · obtain ⟨A5, a5⟩ := p5.side
                  obtain ⟨k0, k1, k2, k3, k4⟩ := HBK.out _ _ _ _ _ a5
                  have m0 := Vc.cellAt (i := 0) k0 rfl
                  have m1 := Vc.cellAt (i := 1) k0 rfl
                  have P5 := hideIt p5
                  have K1 := hideIt k1
                  have K4 := hideIt k4
                  clear p5 a5 A5 k0 k1 k2 k3 k4
                  go_upto_region 22 with (go_at_call 11; refine (HRF.out _ _ _ _ K1.out (by have := HQL.out; omega)).mono ?_; rintro e w6 ⟨ma, mc, rfl, hr6, hb6, ho6⟩; obtain ⟨A6, a6⟩ := (P5.out.below hb6).side; obtain ⟨_, _, k2, k3, _⟩ := HBK.out _ _ _ _ _ a6; have t0 := thawAt k2 0; have t1 := thawAt k2 1; have g0 := Vc.cellAt (i := 0) k2 rfl; have g1 := Vc.cellAt (i := 1) k2 rfl; have q6 : ((w6.setCell ⟨g6, 0, none⟩ (.string xh)).setCell ⟨g6, 1, none⟩ (.slice ma q2.length mc)).heap[g6]? = some (.cells #[.string xh, .slice ma q2.length mc] 28 (0, 0)) := set2_same k2 _ _; have q9 : ((w6.setCell ⟨g6, 0, none⟩ (.string xh)).setCell ⟨g6, 1, none⟩ (.slice ma q2.length mc)).heap[g9]? = some (.cells #[.string hd1, .slice n2 l1.length c2] 28 (0, 0)) := (set2_other HLO.out.2.2 _ _).trans k3; have u0 := Vc.cellAt (i := 0) q6 rfl; have u1 := Vc.cellAt (i := 1) q6 rfl; have t2 := thawAt q9 0; have t3 := thawAt q9 1; have g2 := Vc.cellAt (i := 0) q9 rfl; have g3 := Vc.cellAt (i := 1) q9 rfl; have P6 := hideIt (P5.out.chg (chg_ok K4.out hb6 hr6 ho6 HLO.out.1 HLO.out.2.1 (hd' := xh))); clear hr6 hb6 ho6 a6 A6 k2 k3 q6 q9)
                  go_wp2_with fail
                  go_roundw
                  case rel => exact ⟨j + 1, by omega, by omega, by go_num, .inl ⟨some fr, _, _, xh, _, _, q2, P6.out, HFO.out, HFS.out, by have := HQL.out; omega, by have := HB4.out; have := HFS.out; omega, by have := HB4.out; omega⟩⟩
                  case measure => simp [intOf]; omega
                · obtain ⟨A5, a5⟩ := p5.side
                  obtain ⟨k0, k1, k2, k3, k4⟩ := HBK.out _ _ _ _ _ a5
                  have m0 := Vc.cellAt (i := 0) k0 rfl
                  have m1 := Vc.cellAt (i := 1) k0 rfl
                  have P5 := hideIt p5
                  have K1 := hideIt k1
                  have K4 := hideIt k4
                  clear p5 a5 A5 k0 k1 k2 k3 k4
                  go_upto_region 16 with (go_at_call 11; refine (HRF.out _ _ _ _ K1.out (by have := HQL.out; omega)).mono ?_; rintro e w6 ⟨ma, mc, rfl, hr6, hb6, ho6⟩; obtain ⟨A6, a6⟩ := (P5.out.below hb6).side; obtain ⟨_, _, k2, k3, _⟩ := HBK.out _ _ _ _ _ a6; have t0 := thawAt k3 0; have t1 := thawAt k3 1; have g0 := Vc.cellAt (i := 0) k3 rfl; have g1 := Vc.cellAt (i := 1) k3 rfl; have P6 := hideIt (P5.out.chg (chg_still K4.out hb6 hr6 ho6 HLO.out.2.1 (hd' := xh))); clear hr6 hb6 ho6 a6 A6 k2 k3)
                  go_wp2_with fail
                  go_roundw
                  case rel => exact ⟨j + 1, by omega, by omega, by go_num, .inr ⟨o1, fr, _, hd1, xh, _, _, l1, q2, P6.out, HOPW.out, HSO.out, HLL.out, HFO.out, HFS.out, by have := HQL.out; omega, by have := HB4.out; omega⟩⟩
                  case measure => simp [intOf]; omega
              · obtain ⟨z, hzz⟩ : ∃ z, Rf.chkR xh q2 = z := ⟨_, rfl⟩
                have z0 : ¬ z = 0 := by rw [← hzz]; exact hz
                have z1 : (z == 0) = false := by simpa using z0
                have z7 : ¬ z = 7 := by rw [← hzz]; exact chkR_ne7 xh q2
                have z8 : (z == 7) = false := by simpa using z7
                have HSV : Hid (∀ ra rc gr X, PlnR W.heap.size (R4 W g6 hd1 (.slice n1 l1.length c1) l1 gx #[.int .i64 y, .int .u64 fk, .int .i64 ft] g9 hd1 (.slice n2 l1.length c2) l1 gr xh (.slice ra q2.length rc) q2) fb bb 1048576 o1 U1 y fk ft X → Calls Tryz.prog 10 #[.pointer (some ⟨fb, 0, none⟩), .agg #[.string xh, .slice ra q2.length rc]] X fun e w' => e = .returned (.int .i64 z) ∧ PlnR W.heap.size (R4 W g6 hd1 (.slice n1 l1.length c1) l1 gx #[.int .i64 y, .int .u64 fk, .int .i64 ft] g9 hd1 (.slice n2 l1.length c2) l1 gr xh (.slice ra q2.length rc) q2) fb bb 1048576 o1 U1 y fk ft w') := hideIt (fun ra rc gr X hX => by
                  obtain ⟨A, hA⟩ := hX.side
                  exact (hX.save (by have := HB4.out; omega) xh _ q2 hA.it.row (by have := HQL.out; omega) (by have := HB4.out; omega)).mono fun e w' h => h.elim (fun h => ⟨by rw [← hzz]; exact h.2.1, hX.below h.2.2⟩) (fun h => absurd h.1 hz))
                clear hz hzz
                go_upto_region 17 with (go_at_call 8; refine HDD.out.mono ?_; rintro e w3 ⟨rfl, hw⟩; obtain rfl := hw.symm)
                go_upto_region 18 with (go_at_call 9; refine HCU.out.mono ?_; rintro e w3 ⟨ra, rc, rfl, hr3, hb3⟩; have p3 := HIT.out _ _ _ (HPP.out.below hb3) hr3; obtain ⟨gr, hgr⟩ : ∃ g, w3.heap.size = g := ⟨_, rfl⟩; obtain ⟨X3, hX3⟩ : ∃ X, w3.alloc (.cells #[.string xh, .slice ra q2.length rc] 37) = X := ⟨_, rfl⟩; rw [hgr, hX3] at p3; obtain ⟨A3, a3⟩ := p3.side; obtain ⟨k0, k1, k2, k3, k4⟩ := HBK.out _ _ _ _ _ a3; have r0 := Vc.cellAt (i := 0) k0 rfl; have r1 := Vc.cellAt (i := 1) k0 rfl; have P3 := hideIt p3; clear hr3 hb3 p3 a3 A3 k0 k1 k2 k3 k4)
                go_upto_region 19 with (go_at_call 10; refine (HSV.out _ _ _ _ P3.out).mono ?_; rintro e w5 ⟨rfl, p5⟩; have P5 := hideIt p5; clear p5)
                go_wp2_with fail
                go_roundw
                case rel => exact ⟨j + 1, by omega, by omega, by go_num, .inl ⟨o1, U1, bb, hd1, _, _, l1, P5.out.chg (chg_drop stab3 (fun A h => h.r3)), HOPW.out, HSO.out, HLL.out, by have := HB4.out; omega, by have := HB4.out; omega⟩⟩
                case measure => simp [intOf]; omega
            · obtain ⟨o1, tx, bb, hd1, hd2, v1, v2, l1, l2, hP, hx⟩ := hst
              have HM : Hid (MidI W fb g6 gx #[.int .i64 y, .int .u64 fk, .int .i64 ft] g9 (b + 16) y fk ft wr) := hideIt (InB.mid ⟨o1, tx, bb, hd1, hd2, v1, v2, l1, l2, hP, hx⟩)
              have HDD := hideIt hP.dead
              clear hP hx
              go_wp2_with (go_at_call 8; refine HDD.out.mono ?_; rintro e w3 ⟨rfl, hw⟩; obtain rfl := hw.symm)
              go_meet
              exact ⟨rfl, HM.out⟩
          · have HM : Hid (MidI W fb g6 gx #[.int .i64 y, .int .u64 fk, .int .i64 ft] g9 (b + 16) y fk ft wr) := hideIt (hst.elim (fun h => h.mid hj4) (fun h => h.mid))
            clear hst
            by_cases hjn : j < nr
            · have e1 : (j : Int) < (nr : Int) := by omega
              have f1 : decide ((j : Int) < (nr : Int)) = true := decide_eq_true e1
              have e2 : ¬ (j : Int) < 4 := by omega
              have f2 : decide ((j : Int) < 4) = false := decide_eq_false e2
              go_wp2_with fail
              go_meet
              exact ⟨rfl, HM.out⟩
            · have e1 : ¬ (j : Int) < (nr : Int) := by omega
              have f1 : decide ((j : Int) < (nr : Int)) = false := decide_eq_false e1
              go_wp2_with fail
              go_meet
              exact ⟨rfl, HM.out⟩
      case rest =>
      obtain ⟨rfl, hmid⟩ := hcut
      obtain ⟨hd1, v1, l1, hd2, v2, l2, hl1, hl2, hT1⟩ := hmid
      obtain ⟨n1, c1, rfl⟩ : ∃ a c, v1 = .slice a l1.length c := (by obtain ⟨A, hA⟩ := hT1.side; exact Kq.row_form3 hA.r2.r1.was.row)
      obtain ⟨n2, c2, rfl⟩ : ∃ a c, v2 = .slice a l2.length c := (by obtain ⟨A, hA⟩ := hT1.side; exact Kq.row_form3 hA.come.row)
      have HL1 := hideIt hl1
      have HL2 := hideIt hl2
      have NB : Hid (b + 16 < 700 ∧ b + 20 ≤ 30 * (i + 1)) := hideIt ⟨by omega, by omega⟩
      have GS : Hid (∀ o, (Gd hd1 l1 hd2 l2) o → sizeO o ≤ 50000) := hideIt (fun o h => h.1)
      obtain ⟨R, hR⟩ : ∃ R, (R3 W g6 hd1 (.slice n1 l1.length c1) l1 gx #[.int .i64 y, .int .u64 fk, .int .i64 ft] g9 hd2 (.slice n2 l2.length c2) l2) = R := ⟨_, rfl⟩
      have HXC : Hid (∀ A X, R A X → X.cell? ⟨gx, 1, none⟩ = some (.int .u64 fk) ∧ X.cell? ⟨gx, 2, none⟩ = some (.int .i64 ft)) := hideIt (by rw [← hR]; exact fun A X hA => ⟨Vc.cellAt (i := 1) hA.r2.xb rfl, Vc.cellAt (i := 2) hA.r2.xb rfl⟩)
      have HBX : Hid (∀ A X, R A X → X.heap[g6]? = some (.cells #[.string hd1, .slice n1 l1.length c1] 28 (0, 0)) ∧ Rf.RRow X (.slice n1 l1.length c1) l1 ∧ X.heap[g9]? = some (.cells #[.string hd2, .slice n2 l2.length c2] 28 (0, 0)) ∧ Rf.RRow X (.slice n2 l2.length c2) l2) := hideIt (by rw [← hR]; exact fun A X hA => ⟨hA.r2.r1.was.box, hA.r2.r1.was.row, hA.come.box, hA.come.row⟩)
      have HSE : Hid (∀ (N : Nat) (hd hx : ByteArray) (vx : Value) (l lx : List Rf.Rf) X Y, Tld W.heap.size R fb N 1048576 hd l X → Below X.heap.size X Y → Rf.RRow Y vx lx → (∀ k, vx.ownBlock = some k → X.heap.size ≤ k) → Tld W.heap.size (R1 W g6 hx vx lx) fb N 1048576 hd l ((Y.setCell ⟨g6, 0, none⟩ (.string hx)).setCell ⟨g6, 1, none⟩ vx)) := hideIt (by
        rw [← hR]
        intro N hd hx vx l lx X Y hX hb hr ho
        obtain ⟨A, hA⟩ := id hX.side
        exact hX.chg (chg_end hA.r2.r1.bel.size hb hr ho hA.r2.r1.lo6))
      rw [hR] at hT1
      have HT1 := hideIt hT1
      obtain ⟨As, hAs⟩ := hT1.side
      obtain ⟨x3, x4⟩ := HXC.out _ _ hAs
      obtain ⟨hk0, hk1⟩ : 0 ≤ fk ∧ fk ≤ 18446744073709551615 := HKB.out
      clear hAs As hT1 hR hl1 hl2 P5 HP5
      go_upto_region 26 with (go_at_call 12; refine (T1.crash HT1.out (by have := NB.out; omega) fk ft).mono ?_; rintro e wa ⟨rfl, ta⟩; have TA := hideIt ta; clear ta)
      go_upto_region 27 with (go_at_call 13; refine (T2.up TA.out).mono ?_; rintro e wb ⟨rfl, tb⟩; have TB := hideIt tb; clear tb)
      go_upto_region 28 with (go_at_call 14; refine (T3.open TB.out (by have := NB.out; omega) GS.out).mono ?_; rintro e we ⟨⟨oh, oa, on, oc, oz, rfl⟩, tc⟩; have TC := hideIt tc; clear tc)
      go_upto_region 29 with (go_at_call 7; refine (T4.none TC.out (by have := NB.out; omega)).mono ?_; rintro e wd ⟨rfl, td⟩; obtain ⟨Ad, hAd⟩ := td.side; obtain ⟨x5, x6⟩ := HXC.out _ _ hAd; have TD := hideIt td; clear td hAd Ad)
      go_upto_region 30 with (go_at_call 12; refine (T5.crash TD.out (by have := NB.out; omega) _ _).mono ?_; rintro e wf ⟨rfl, tf⟩; have TF := hideIt tf; clear tf)
      go_upto_region 31 with (go_at_call 13; refine (T6.up TF.out).mono ?_; rintro e wg ⟨rfl, tg⟩; have TG := hideIt tg; clear tg)
      go_upto_region 32 with (go_at_call 14; refine (T7.open TG.out (by have := NB.out; omega)).mono ?_; rintro e wk ⟨hs, ls, sa, sc, hcase, rfl, hrk, tk⟩; obtain ⟨X9, hX9⟩ : ∃ X, wk.alloc (.cells #[.string hs, .slice sa ls.length sc] 37) = X := ⟨_, rfl⟩; obtain ⟨gs, hgs⟩ : ∃ g, wk.heap.size = g := ⟨_, rfl⟩; have hb9 : Below wk.heap.size wk X9 := (by rw [← hX9]; exact Rf.new_below _ _); have pr : X9.heap[gs]? = some (.cells #[.string hs, .slice sa ls.length sc] 37 (0, 0)) := (by rw [← hX9, ← hgs]; exact alloc_at rfl); have r0 := Vc.cellAt (i := 0) pr rfl; have r1 := Vc.cellAt (i := 1) pr rfl; have tl := tk.below hb9; have RRk := hideIt (Kq.row_grow hrk hb9); obtain ⟨Ak, hAk⟩ := tl.side; obtain ⟨m1, m2, m3, m4⟩ := HBX.out _ _ hAk; have w0 := Vc.cellAt (i := 0) m1 rfl; have w1 := Vc.cellAt (i := 1) m1 rfl; have k0 := Vc.cellAt (i := 0) m3 rfl; have k1 := Vc.cellAt (i := 1) m3 rfl; have PR := hideIt pr; have M2 := hideIt m2; have M4 := hideIt m4; have TL := hideIt tl; have HCASE := hideIt hcase; clear hrk tk hb9 tl m1 m2 m3 m4 pr hAk Ak hcase)
      have HLS : Hid (ls.length ≤ 1000) := hideIt (HCASE.out.elim (fun h => by rw [h.2]; exact HL1.out) (fun h => by rw [h.2]; exact HL2.out))
      go_cut [7, 119] from 19 to 121 (fun qq zz wx => qq = .int .i64 i ∧ zz = .bool false ∧ Tld W.heap.size R fb (b + 20) 1048576 hs ls wx ∧ wx.heap[gs]? = some (.cells #[.string hs, .slice sa ls.length sc] 37 (0, 0)) ∧ Rf.RRow wx (.slice sa ls.length sc) ls)
      case first =>
        have HFIN : Hid (∀ X, Below X9.heap.size X9 X → Tld W.heap.size R fb (b + 20) 1048576 hs ls X ∧ X.heap[gs]? = some (.cells #[.string hs, .slice sa ls.length sc] 37 (0, 0)) ∧ Rf.RRow X (.slice sa ls.length sc) ls) := hideIt (fun X hb => ⟨TL.out.below hb, (hb.block _ (Vc.block_lt PR.out)).trans PR.out, Kq.row_grow RRk.out hb⟩)
        by_cases hx : hs = hd1 ∧ ls = l1
        · have HS1 : Hid (Calls Tryz.prog 15 #[.agg #[.string hs, .slice sa ls.length sc], .agg #[.string hd1, .slice n1 l1.length c1]] X9 fun e w' => e = .returned (.bool true) ∧ Below X9.heap.size X9 w') := hideIt (by
            have := Rf.same_any hs hd1 _ _ ls l1 X9 RRk.out M2.out (by have := HLS.out; omega) (by have := HL1.out; omega)
            rw [decide_eq_true hx] at this
            exact this)
          clear hx
          go_wp2_with (go_at_call 15; refine HS1.out.mono ?_; rintro e wm ⟨rfl, hbs⟩)
          go_meet
          exact ⟨rfl, rfl, HFIN.out _ hbs⟩
        · have hx2 : hs = hd2 ∧ ls = l2 := HCASE.out.elim (fun h => absurd h hx) id
          have HS1 : Hid (Calls Tryz.prog 15 #[.agg #[.string hs, .slice sa ls.length sc], .agg #[.string hd1, .slice n1 l1.length c1]] X9 fun e w' => e = .returned (.bool false) ∧ Below X9.heap.size X9 w' ∧ w'.cell? ⟨gs, 0, none⟩ = some (.string hs) ∧ w'.cell? ⟨gs, 1, none⟩ = some (.slice sa ls.length sc) ∧ w'.cell? ⟨g9, 0, none⟩ = some (.string hd2) ∧ w'.cell? ⟨g9, 1, none⟩ = some (.slice n2 l2.length c2)) := hideIt (by
            have := Rf.same_any hs hd1 _ _ ls l1 X9 RRk.out M2.out (by have := HLS.out; omega) (by have := HL1.out; omega)
            rw [decide_eq_false hx] at this
            refine this.mono fun e w' ⟨he, hb⟩ => ⟨he, hb, ?_⟩
            have p := (HFIN.out _ hb).2.1
            obtain ⟨A, hA⟩ := (HFIN.out _ hb).1.side
            have p2 := (HBX.out _ _ hA).2.2.1
            exact ⟨Vc.cellAt (i := 0) p rfl, Vc.cellAt (i := 1) p rfl, Vc.cellAt (i := 0) p2 rfl, Vc.cellAt (i := 1) p2 rfl⟩)
          have HS2 : Hid (∀ X, Below X9.heap.size X9 X → Calls Tryz.prog 15 #[.agg #[.string hs, .slice sa ls.length sc], .agg #[.string hd2, .slice n2 l2.length c2]] X fun e w' => e = .returned (.bool true) ∧ Below X9.heap.size X9 w') := hideIt (fun X hb => by
            have := Rf.same_any hs hd2 _ _ ls l2 X (Kq.row_grow RRk.out hb) (Kq.row_grow M4.out hb) (by have := HLS.out; omega) (by have := HL2.out; omega)
            rw [decide_eq_true hx2] at this
            exact this.mono fun e w' ⟨he, h⟩ => ⟨he, Rf.below_step hb (Nat.le_refl _) h⟩)
          clear hx hx2
          go_wp2_with (first
            | (go_at_call 15; refine (HS2.out _ hbs).mono ?_; rintro e wn ⟨rfl, hbt⟩)
            | (go_at_call 15; refine HS1.out.mono ?_; rintro e wm ⟨rfl, hbs, s0, s1, s2, s3⟩))
          go_meet
          exact ⟨rfl, rfl, HFIN.out _ hbt⟩
      case rest =>
      obtain ⟨rfl, rfl, tl, pr2, rr2⟩ := hcut
      have r2 := Vc.cellAt (i := 0) pr2 rfl
      have r3 := Vc.cellAt (i := 1) pr2 rfl
      have TM := hideIt tl
      have RRm := hideIt rr2
      clear tl pr2 rr2
      go_upto_region 7 with (go_at_call 11; refine (HRF.out _ _ _ _ RRm.out HLS.out).mono ?_; rintro e wq ⟨ma, mc, rfl, hrq, hbq, hoq⟩; obtain ⟨Aq, hAq⟩ := (TM.out.below hbq).side; obtain ⟨z1, _, _, _⟩ := HBX.out _ _ hAq; have z2 := Vc.cellAt (i := 0) z1 rfl; have z3 := Vc.cellAt (i := 1) z1 rfl; have z4 := thawAt z1 0; have z5 := thawAt z1 1; have TE := hideIt (HSE.out _ _ hs _ _ _ _ _ TM.out hbq hrq hoq); clear hrq hbq hoq z1 hAq Aq)
      go_wp2_with fail
      obtain ⟨o9, B9, hB9, hs9, hop9, ha9⟩ := TE.out
      go_roundw
      case rel =>
        exact ⟨i + 1, B9, sizeO o9, o9, hs, .slice ma ls.length mc, ls, by omega, by omega, by go_num, by have := NB.out; omega, hs9, ha9, hop9, hs9, HLS.out⟩
      case measure => simp [intOf]; omega
    · have HE := hideIt (HEND.out _ _ _ _ _ _ _ _ ha)
      clear ha hop hso hll
      by_cases hlt : i < nf
      · have i1 : (i : Int) < (nf : Int) := by omega
        have d1 : decide ((i : Int) < (nf : Int)) = true := decide_eq_true i1
        have i2 : ¬ (i : Int) < 6 := by omega
        have d2 : decide ((i : Int) < 6) = false := decide_eq_false i2
        clear hc
        go_wp2
        go_ret
        exact ⟨rfl, HE.out⟩
      · have i1 : ¬ (i : Int) < (nf : Int) := by omega
        have d1 : decide ((i : Int) < (nf : Int)) = false := decide_eq_false i1
        clear hc
        go_wp2
        go_ret
        exact ⟨rfl, HE.out⟩
end G
end Go.Proofs.YtknmmlfdlfioiaaGreatDoor.Kf
