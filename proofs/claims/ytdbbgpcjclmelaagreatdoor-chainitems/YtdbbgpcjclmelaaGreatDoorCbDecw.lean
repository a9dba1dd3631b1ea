/- A number as decimal digits, walked: the program's, by the library's own text. -/
import Derived.Test.YtdbbgpcjclmelaaGreatDoorShelf
import Derived.Test.YtdbbgpcjclmelaaGreatDoorRows
import Derived.Test.YtdbbgpcjclmelaaGreatDoorCbOwn
import Derived.Lib.ItoaMem
namespace Go.Proofs.YtdbbgpcjclmelaaGreatDoor.Cb
open Go.RowKit Go.Sort
def tabName : String := (Rows.chainItemsRow.named.getD 4 "")
def Tab (w : World) : Prop := Lib.TabIs Tryz.prog w tabName .u64 Lib.pow10Tab
theorem var_below {w w' : World} {n : String} {v : Array Value} (h : Below w.heap.size w w') (hv : w.var? Tryz.prog n = some v) : w'.var? Tryz.prog n = some v := by
  unfold World.var? at *
  cases hg : Tryz.prog.globalNamed n with
  | none => simp [hg] at hv
  | some g =>
    simp only [hg, Option.bind_some] at hv ⊢
    have hlt : g < w.heap.size := by
      rcases Nat.lt_or_ge g w.heap.size with h' | h'
      · exact h'
      · rw [Array.getElem?_eq_none h'] at hv; simp at hv
    rw [h.block g hlt]
    exact hv
theorem tab_below {w w' : World} (h : Below w.heap.size w w') (ht : Tab w) : Tab w' := var_below h ht
theorem numDigits_any (u : Nat) (h1 : 1 ≤ u) (h2 : u < 18446744073709551616) (w : World) (ht : Tab w) :
    Calls Tryz.prog 208 #[.int .u64 (u : Int)] w fun e w' => e = .returned (.int .i64 (Lib.nDigits u : Int)) ∧ w' = w := Any.internal_strconv_numDigits Tryz.laysM284 u h1 h2 w ht
theorem small_any (i : Nat) (h : i < 100) (w : World) :
    Calls Tryz.prog 207 #[.int .i64 (i : Int)] w fun e w' => e = .returned (.string (bs (Lib.decDigits i))) ∧ w' = w := Any.internal_strconv_small Tryz.lays283 i h w
theorem fmt_any (blk off cap : Nat) (u : Nat) (d : Array UInt8) (w : World) (hH : Holds (fun (b : UInt8) => Value.int .u8 (b.toNat : Int)) w blk off d) (hu : u < 10 ^ d.size) (hu64 : u < 18446744073709551616) (hsz : d.size < 4611686018427387904) :
    Calls Tryz.prog 209 #[.slice (some ⟨blk, off, none⟩) d.size cap, .int .u64 (u : Int)] w fun e w' =>
      e = .returned (.tuple #[]) ∧ ∃ (n v' : Nat) (dk : Array UInt8), w' = (putRow (fun (b : UInt8) => Value.int .u8 (b.toNat : Int)) w blk off dk).drewN n ∧ Lib.FmtInv d.size u 0 v' dk := Any.internal_strconv_formatBase10 Tryz.lays285 blk off cap u d w hH hu hu64 hsz
theorem holds0 (w : World) (T : TypeId) (nd : Nat) (hs : nd ≤ 24) : Holds (fun (b : UInt8) => Value.int .u8 (b.toNat : Int)) (w.alloc (.cells Lib.zeros24 T)) w.heap.size 0 (Array.replicate nd (0 : UInt8)) := fun j hj => by
  have hj' : j < nd := by simpa using hj
  refine ⟨?_, World.frozen?_alloc_new _ _ _ _⟩
  rw [World.cell?_alloc_new, Lib.zeros24_at _ (by omega), getElem!_pos _ j hj]
  simp
theorem below_put {w : World} {o : Obj} {dk : Array UInt8} {n : Nat} : Below w.heap.size w ((putRow (fun (b : UInt8) => Value.int .u8 (b.toNat : Int)) (w.alloc o) w.heap.size 0 dk).drewN n) := by
  have h1 : Below w.heap.size (w.alloc o) (putRow (fun (b : UInt8) => Value.int .u8 (b.toNat : Int)) (w.alloc o) w.heap.size 0 dk) := ⟨rfl, rfl, rfl, by simp [putRow, mapBlock], fun k hk => by simp only [putRow, mapBlock]; rw [Array.getElem?_modify, if_neg (by omega)]⟩
  have h2 : Below w.heap.size (putRow (fun (b : UInt8) => Value.int .u8 (b.toNat : Int)) (w.alloc o) w.heap.size 0 dk) ((putRow (fun (b : UInt8) => Value.int .u8 (b.toNat : Int)) (w.alloc o) w.heap.size 0 dk).drewN n) := ⟨rfl, rfl, rfl, Nat.le_refl _, fun _ _ => rfl⟩
  exact (((Below.refl _ _).alloc (Nat.le_refl _) o).trans h1).trans h2
theorem nd20 (u : Nat) (h1 : 1 ≤ u) (h : u < 18446744073709551616) : Lib.nDigits u ≤ 20 := by
  have := Lib.numDigits_eq u h1 h
  split at this <;> omega
set_option maxHeartbeats 1600000 in
set_option maxRecDepth 100000 in
theorem fmtuint_any (u : Nat) (w : World) (hu64 : u < 18446744073709551616) (ht : Tab w) :
    Calls Tryz.prog 192 #[.int .u64 (u : Int), .int .i64 10] w fun e w' => e = .returned (.string (bs (Lib.decDigits u))) ∧ Below w.heap.size w w' := by
  have u64 : (u : Int) < 18446744073709551616 := by omega
  by_cases hs : u < 100
  · have h1 : (u : Int) < 100 := by omega
    have HS := hideIt (small_any u hs)
    go_enter Tryz.func192, Tryz.ntmps192
    go_wp2_with (first | (go_at_call 207; refine (HS.out _).mono ?_; rintro e w' ⟨rfl, rfl⟩))
    go_ret
    exact ⟨rfl, Below.refl _ _⟩
  · have h1 : ¬ (u : Int) < 100 := by omega
    have h1d : decide ((u : Int) < 100) = false := decide_eq_false h1
    have hu1 : 1 ≤ u := by omega
    have hn := nd20 u hu1 hu64
    have hH0 := holds0 w 248 (Lib.nDigits u) (by omega)
    have hfmt := fmt_any w.heap.size 0 24 u (Array.replicate (Lib.nDigits u) 0) (w.alloc (.cells Lib.zeros24 248)) hH0 (by rw [Array.size_replicate]; exact Lib.lt_pow_nDigits u) hu64 (by rw [Array.size_replicate]; omega)
    rw [Array.size_replicate] at hfmt
    have HN := hideIt (fun w h => numDigits_any u hu1 hu64 w h)
    have HF := hideIt hfmt
    have HH := hideIt hH0
    have HT : Hid (Tab (w.alloc (.cells Lib.zeros24 248))) := hideIt (tab_below ((Below.refl _ _).alloc (Nat.le_refl _) _) ht)
    obtain ⟨m, hm⟩ : ∃ m, Lib.nDigits u = m := ⟨_, rfl⟩
    rw [hm] at HN HF hn
    have m1 : (m : Int) ≤ 24 := by omega
    have m0 : (0 : Int) ≤ (m : Int) := by omega
    clear hH0 hfmt
    go_enter Tryz.func192, Tryz.ntmps192
    go_wp2_with (first | (go_at_call 208; refine (HN.out _ HT.out).mono ?_; rintro e w' ⟨rfl, rfl⟩))
    refine HF.out.mono ?_
    rintro e W2 ⟨rfl, k, v', dk, hW2, hI⟩
    have hb2 : Below w.heap.size w W2 := by rw [hW2]; exact below_put
    have hcv : (convert 54 9 (.slice (some ⟨w.heap.size, 0, none⟩) m 24)).run Tryz.prog W2 = .ok (.string (bs (Lib.decDigits u))) W2 := by
      rw [← ints_back]
      refine run_convert_bytes_arg (P := Tryz.prog) W2 54 5 Tryz.underlying54 Tryz.underlying5 w.heap.size 0 m 24 _ (by rw [List.length_map, Lib.decDigits_length, hm]) (fun i hi => ?_) 9 Tryz.underlying9
      have hi2 : i < (Lib.decDigits u).length := by rw [Lib.decDigits_length, hm]; exact hi
      have hn2 := Lib.row_is_numeral (by rw [hm]; exact hI) i hi2
      have hH := HH.out
      rw [hm] at hH
      rw [hW2, World.cell?_drewN, cell?_putRow (fun (b : UInt8) => Value.int .u8 (b.toNat : Int)) _ w.heap.size 0 _ dk hH (by rw [hI.size, Array.size_replicate]) i (by rw [hI.size]; exact hi), ← hn2]
      simp [List.getD, hi2]
    clear hW2 hI HH HF HN
    go_wp2
    go_ret
    exact ⟨rfl, hb2⟩
set_option maxHeartbeats 400000 in
theorem dec_any (u : Nat) (w : World) (hu64 : u < 18446744073709551616) (ht : Tab w) :
    Calls Tryz.prog 132 #[.int .u64 (u : Int)] w fun e w' => e = .returned (.string (bs (Lib.decDigits u))) ∧ Below w.heap.size w w' := by
  have HF := hideIt (fmtuint_any u w hu64 ht)
  clear ht
  have HG : Hid (Calls Tryz.prog 164 #[.int .u64 (u : Int), .int .i64 10] w fun e w' => e = .returned (.string (bs (Lib.decDigits u))) ∧ Below w.heap.size w w') := by
    refine hideIt ?_
    go_enter Tryz.func164, Tryz.ntmps164
    go_wp2_with (first | (go_at_call 192; refine HF.out.mono ?_; rintro e w1 ⟨rfl, hb1⟩))
    go_ret
    exact ⟨rfl, hb1⟩
  go_enter Tryz.func132, Tryz.ntmps132
  go_wp2_with (first | (go_at_call 164; refine HG.out.mono ?_; rintro e w1 ⟨rfl, hb1⟩))
  go_ret
  exact ⟨rfl, hb1⟩
end Go.Proofs.YtdbbgpcjclmelaaGreatDoor.Cb
