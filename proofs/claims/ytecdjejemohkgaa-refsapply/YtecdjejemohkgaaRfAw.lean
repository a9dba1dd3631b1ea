/- Refs: Apply at any refs and any few updates; the waking test. -/
import Derived.Test.YtecdjejemohkgaaRfMw
import Derived.Test.YtecdjejemohkgaaRfRx
import Derived.Test.YtecdjejemohkgaaRfRy
import Derived.Test.YtecdjejemohkgaaRfRc
namespace Go.Proofs.Ytecdjejemohkgaa.Rf
open Cb Go.RowKit Go.Shelf
theorem mem_set {nm id : ByteArray} : ∀ {l : List Rf} {x : Rf}, x ∈ setR nm id l → x = ⟨nm, id⟩ ∨ x ∈ l
  | [], x, h => by simp [setR] at h; exact .inl h
  | y :: r, x, h => by
    rw [setR] at h
    split at h
    · rcases List.mem_cons.1 h with h | h
      · exact .inl h
      · exact .inr (List.mem_cons_of_mem _ h)
    · split at h
      · rcases List.mem_cons.1 h with h | h
        · exact .inl h
        · exact .inr h
      · rcases List.mem_cons.1 h with h | h
        · exact .inr (by rw [h]; exact List.mem_cons_self)
        · rcases mem_set h with h | h
          · exact .inl h
          · exact .inr (List.mem_cons_of_mem _ h)
theorem mem_del {nm : ByteArray} : ∀ {l : List Rf} {x : Rf}, x ∈ delR nm l → x ∈ l
  | [], x, h => by simp [delR] at h
  | y :: r, x, h => by
    rw [delR] at h
    split at h
    · exact List.mem_cons_of_mem _ h
    · rcases List.mem_cons.1 h with h | h
      · rw [h]; exact List.mem_cons_self
      · exact List.mem_cons_of_mem _ (mem_del h)
theorem len_set (nm id : ByteArray) : ∀ l : List Rf, (setR nm id l).length ≤ l.length + 1
  | [] => by simp [setR]
  | y :: r => by
    have := len_set nm id r
    rw [setR]
    split
    · simp
    · split
      · simp
      · simp; omega
theorem len_del (nm : ByteArray) : ∀ l : List Rf, (delR nm l).length ≤ l.length
  | [] => by simp [delR]
  | y :: r => by
    have := len_del nm r
    rw [delR]
    split
    · simp
    · simp; omega
/-- Rising, told by heads. -/
def Ri2 : List Rf → Prop
  | [] => True
  | x :: r => (∀ y ∈ r, lt x.nm y.nm) ∧ Ri2 r
theorem ri2_rise : ∀ {l : List Rf}, Ri2 l → Rise l
  | [], _ => fun i j x y _ h _ => by simp at h
  | a :: r, h => fun i j x y hij hx hy => by
    cases j with
    | zero => omega
    | succ j =>
      have hy' : r[j]? = some y := by simpa using hy
      cases i with
      | zero =>
        obtain rfl : a = x := by simpa using hx
        exact h.1 y (List.mem_of_getElem? hy')
      | succ i => exact ri2_rise h.2 i j x y (by omega) (by simpa using hx) hy'
theorem ri2_set (nm id : ByteArray) : ∀ {l : List Rf}, Ri2 l → Ri2 (setR nm id l)
  | [], _ => ⟨fun y hy => by simp at hy, trivial⟩
  | x :: r, h => by
    rw [setR]
    split
    · rename_i e
      exact ⟨fun y hy => by have := h.1 y hy; rw [e] at this; exact this, h.2⟩
    · split
      · rename_i e1 e2
        exact ⟨fun y hy => by
          rcases List.mem_cons.1 hy with hy | hy
          · rw [hy]; exact e2
          · exact lt_trans e2 (h.1 y hy), h⟩
      · rename_i e1 e2
        refine ⟨fun y hy => ?_, ri2_set nm id h.2⟩
        rcases mem_set hy with hy | hy
        · rw [hy]
          rcases lt_tri x.nm nm with h | h | h
          · exact h
          · exact absurd h e1
          · exact absurd h e2
        · exact h.1 y hy
theorem ri2_del (nm : ByteArray) : ∀ {l : List Rf}, Ri2 l → Ri2 (delR nm l)
  | [], _ => trivial
  | x :: r, h => by
    rw [delR]
    split
    · exact h.2
    · exact ⟨fun y hy => h.1 y (mem_del hy), ri2_del nm h.2⟩
theorem chkL_low : ∀ (l : List Rf) (q : ByteArray), chkL (some q) l = 0 → (∀ y ∈ l, lt q y.nm) ∧ Ri2 l
  | [], q, _ => ⟨fun y hy => by simp at hy, trivial⟩
  | x :: r, q, h => by
    rw [chkL] at h
    by_cases h0 : stepR (some q) x = 0
    · simp only [if_pos h0] at h
      obtain ⟨a, b⟩ := chkL_low r x.nm h
      have hq : lt q x.nm := by
        rw [stepR] at h0
        split at h0
        · cases h0
        · split at h0
          · cases h0
          · split at h0
            · cases h0
            · rename_i e
              rcases Decidable.em (lt q x.nm) with k | k
              · exact k
              · exact absurd ⟨q, rfl, k⟩ e
      exact ⟨fun y hy => by
        rcases List.mem_cons.1 hy with hy | hy
        · rw [hy]; exact hq
        · exact lt_trans hq (a y hy), a, b⟩
    · simp only [if_neg h0] at h
      exact absurd h h0
theorem chkR_ri {hd : ByteArray} {l : List Rf} (h : chkR hd l = 0) : Ri2 l := by
  obtain ⟨_, _, h, _⟩ := chkR_wf h
  cases l with
  | nil => trivial
  | cons x r =>
    rw [chkL] at h
    by_cases h0 : stepR none x = 0
    · simp only [if_pos h0] at h
      exact chkL_low r x.nm h
    · simp only [if_neg h0] at h
      exact absurd h h0
theorem get_hit {nm : ByteArray} : ∀ {l : List Rf}, Ri2 l → ¬ getR l nm = ⟨#[]⟩ → hitR nm l (plc nm l) = true
  | [], _, h => absurd rfl h
  | x :: r, hr, h => by
    by_cases h1 : x.nm = nm
    · have hp : plc nm (x :: r) = 0 := by simp [plc, List.takeWhile, h1, lt_irrefl]
      rw [hp]
      simp [hitR, h1]
    · rw [getR, if_neg h1] at h
      have ih := get_hit hr.2 h
      have h3 : lt x.nm nm := by
        have hlt := hit_lt ih
        unfold hitR at ih
        cases e : r[plc nm r]? with
        | none => rw [e] at ih; cases ih
        | some y =>
          rw [e] at ih
          have := hr.1 y (List.mem_of_getElem? e)
          rw [of_decide_eq_true ih] at this
          exact this
      have hp : plc nm (x :: r) = plc nm r + 1 := by simp [plc, List.takeWhile, h3]
      rw [hp]
      simpa [hitR] using ih
theorem emp_iff (s : ByteArray) : emp s = true ↔ s = ⟨#[]⟩ := by
  unfold emp
  rw [ByteArray.toList_eq, beq_iff_eq]
  exact ⟨fun h => bytes_ext h, fun h => by rw [h]⟩
/-- What Apply's loop keeps. -/
def KI (i : Nat) (m : List Rf) : Prop := Ri2 m ∧ m.length ≤ 256 + i ∧ i ≤ 1000 ∧ ∀ x ∈ m, okN x.nm = true ∧ x.id.size = 32
theorem upd_ok {hd : ByteArray} {m : List Rf} {ah : List Up} {u : Up} {f : ByteArray → ByteArray → Bool} (h : upd hd m ah u f = 0) : okN u.nm = true ∧ (emp u.new = true ∨ u.new.size = 32) ∧ getR m u.nm = u.old ∧ (emp u.new = true → emp u.old = false) := by
  rw [upd] at h
  by_cases ha : ask ah u = 0
  · rw [if_pos ha] at h
    rw [ask] at ha
    split at ha
    · cases ha
    · split at ha
      · cases ha
      · rename_i a b
        split at ha
        · cases ha
        · rename_i c
          have hg : getR m u.nm = u.old := by
            rw [why2] at h
            split at h
            · cases h
            · rename_i k; exact Decidable.not_not.1 k
          refine ⟨by simpa using b, ?_, hg, fun e => ?_⟩
          · cases e : emp u.new with
            | true => exact .inl rfl
            | false =>
              refine .inr ?_
              rcases Decidable.em (u.new.size = 32) with k | k
              · exact k
              · exact absurd (.inl ⟨e, decide_eq_false k⟩) c
          · cases e2 : emp u.old with
            | false => rfl
            | true => exact absurd (.inr ⟨e, e2⟩) c
  · rw [if_neg ha] at h
    exact absurd h ha
theorem apply_any (hd : ByteArray) (v0 : Value) (l : List Rf) (va0 : Value) (us : List Up) (k : Nat) (lb : Array Value) (f : ByteArray → ByteArray → Bool) (w : World) (h : RRow w v0 l) (hl : l.length ≤ 100000) (hu : URow w va0 us) (hul : us.length ≤ 1000) (hf : Fwd w k lb f)
    (hz : hd.size ≤ 281474976710656) (hzs : ∀ (i : Nat) (x : Rf), l[i]? = some x → x.nm.size ≤ 281474976710656 ∧ x.id.size ≤ 281474976710656) :
    Calls Try.prog 8 #[.agg #[.string hd, v0], va0, .func (.func k) #[] lb] w fun e w' => AppTo w hd (appP f hd l us) e w' := by
  refine apply_gen hd v0 l va0 us k lb f w h hl hu (by omega) hf hz hzs KI (fun hc => ⟨chkR_ri hc, by have := (chkR_wf hc).1; omega, by omega, (chkR_wf hc).2.2.2⟩) ?_ ?_
  · intro i m u hi ⟨k1, k2, k3, k4⟩ h0
    obtain ⟨u1, u2, u3, u4⟩ := upd_ok h0
    have hil : i < us.length := (List.getElem?_eq_some_iff.1 hi).1
    have hnz : u.new.size ≤ 281474976710656 := by
      rcases u2 with e | e
      · rw [(emp_iff _).1 e]; exact Nat.zero_le _
      · omega
    refine ⟨moved_any m u (by omega) (ri2_rise k1) (by have := okN_size u1; omega) hnz (fun e => get_hit k1 (fun e2 => ?_)), ?_⟩
    · have := u4 e
      rw [← u3, e2, (emp_iff _).2 rfl] at this
      cases this
    · rw [movR]
      by_cases he : emp u.new = true
      · rw [if_pos he]
        exact ⟨ri2_del _ k1, by have := len_del u.nm m; omega, by omega, fun x hx => k4 x (mem_del hx)⟩
      · rw [if_neg he]
        refine ⟨ri2_set _ _ k1, by have := len_set u.nm u.new m; omega, by omega, fun x hx => ?_⟩
        rcases mem_set hx with hx | hx
        · rw [hx]
          exact ⟨u1, by rcases u2 with e | e; exact absurd e he; exact e⟩
        · exact k4 x hx
  · intro i m ⟨k1, k2, k3, k4⟩
    exact ⟨by omega, fun j x hx => by have := (k4 x (List.mem_of_getElem? hx)).2; omega⟩
end Go.Proofs.Ytecdjejemohkgaa.Rf
