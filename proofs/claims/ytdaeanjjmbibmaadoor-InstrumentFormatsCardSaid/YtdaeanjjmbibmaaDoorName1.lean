/- What the program's Name returns for any note (the octave -1 let in). -/
import Derived.Test.YtdaeanjjmbibmaaDoorPName
import Derived.Test.YtdaeanjjmbibmaaDoorNames
namespace Go.Proofs.YtdaeanjjmbibmaaDoor
open Go.RowKit

theorem below_grow (w : World) (q : Nat) (os : Array Obj) : Below w.heap.size w (Sort.grow (w.drewN q) os) :=
  ⟨rfl, rfl, rfl, by simp [Sort.grow, World.drewN], fun k hk => by simp [Sort.grow, World.drewN, Array.getElem?_append_left hk]⟩

def Tab (w : World) : Prop := ∀ w', Below w.heap.size w w' → Lib.TabIs Tryd.prog w' "internal/strconv.uint64pow10" .u64 Lib.pow10Tab
theorem Tab.below {w w' : World} (h : Tab w) (hb : Below w.heap.size w w') : Tab w' := fun _ hb2 => h _ (bt hb hb2)

theorem Tab.drew {w : World} (h : Tab w) : Tab w.drew := h.below (Below.refl _ _).drew

theorem itoa_m1 (w : World) (h : Tab w) :
    Calls Tryd.prog 54 #[.int .i64 (-1)] w fun e w' => e = .returned (.string ⟨(Lib.itoa (-1)).toArray⟩) ∧ Below w.heap.size w w' :=
  (Tryd.strconv_Itoa (-1) (by decide) (by decide) w (h w (Below.refl _ _))).mono fun e w' hh => ⟨hh.1, by obtain ⟨k, os, rfl⟩ := hh.2; exact below_grow w k os⟩

set_option maxHeartbeats 1600000 in
theorem name_m1 (n : Nat) (a : Int) (w : World) (E : Env w) (T : Tab w) (hn : n < 7) (h : rgt n a (-1) = true) :
    Calls Tryd.prog 86 #[.agg #[.int .i64 n, .int .i64 a, .int .i64 (-1)]] w fun e w' => e = .returned (.tuple #[.string ⟨(nmS n a (-1)).toArray⟩, .int .i64 (sndE n a (-1))]) ∧ Below w.heap.size w w' := by
  have hP : Hid (nmS n a (-1) = nmB n a (-1) ∧ sndE n a (-1) = 0) := by simp [Hid, nmS, sndE, h]
  have hq : Hid (lnm n ++ (ByteArray.mk (altB a).toArray) ++ (ByteArray.mk (Lib.itoa (-1)).toArray) = ⟨(nmB n a (-1)).toArray⟩) := nm_eq n a (-1)
  have hl := E.lname n hn
  have hg := E.big
  have hg0 : 1 < w.heap.size := by omega
  have k0 : (n : Int) < 7 := by omega
  have k1 := altB_len a
  have k2 := lnm_size n hn
  have k3 := itoa_len (-1) (by omega) (by omega)
  have q1 : ¬ 9223372036854775807 < (lnm n).size + (altB a).length := by omega
  have q2 : ¬ 9223372036854775807 < (lnm n).size + (altB a).length + (Lib.itoa (-1)).length := by omega
  clear h
  go_enter Tryd.func86, Tryd.ntmps86
  go_wp2_with (go_at_call 81; refine (sounding_any _ _ _ _ (E.alloc _)).mono ?_; rintro e w1 ⟨rfl, hb⟩; rw [hP.out.2]; obtain ⟨c0, _⟩ := keepc hb 0; obtain ⟨c1, _⟩ := keepc hb 1; obtain ⟨c2, _⟩ := keepc hb 2; have hl1 := ((bcell (bx hb)).1 _ _ hg0).trans hl; have T1 := (T.below (bx hb)).drew; have hz : w.heap.size < w1.heap.size := (by have := hb.size; simp at this; omega); have hg1 : 1 < w1.heap.size := (by omega); simp at c0 c1 c2)
  go_region_held3 (fun w' => w'.cell? ⟨w.heap.size, 0, none⟩ = some (.int .i64 n) ∧ w'.cell? ⟨w.heap.size, 1, none⟩ = some (.int .i64 a) ∧ w'.cell? ⟨w.heap.size, 2, none⟩ = some (.int .i64 (-1)) ∧ w'.cell? ⟨1, n * 3, none⟩ = some (.string (lnm n)) ∧ Tab w') (first | exact ⟨c0, c1, c2, hl1, T1⟩ | exact ⟨((bcell hb2).1 _ _ hz).trans c0, ((bcell hb2).1 _ _ hz).trans c1, ((bcell hb2).1 _ _ hz).trans c2, ((bcell hb2).1 _ _ hg1).trans hl1, T1.below hb2⟩) (first | (go_at_call 108; refine (alterName_any _ _).mono ?_; rintro e w2 ⟨rfl, rfl⟩) | (go_at_call 54; refine (itoa_m1 _ T1).mono ?_; rintro e w2 ⟨rfl, hb2⟩))
  go_wp2_with (fail)
  go_ret2
  exact ⟨ret_sp (by rw [hP.out.1]; exact hq.out) hP.out.2.symm, bt (bx hb) (by first | exact ((Below.refl _ _).drew).trans (hb2.mono (Nat.le_refl _)))⟩

theorem name_any (l a o : Int) (w : World) (E : Env w) (T : Tab w) :
    Calls Tryd.prog 86 #[.agg #[.int .i64 l, .int .i64 a, .int .i64 o]] w fun e w' => e = .returned (.tuple #[.string ⟨(nmS l a o).toArray⟩, .int .i64 (sndE l a o)]) ∧ Below w.heap.size w w' := by
  cases h : rgt l a o with
  | false => exact name_no l a o w E h
  | true =>
    obtain ⟨⟨h0, h6⟩, _, o1, o2⟩ := rngB_iff.1 (rgt_rng h).1
    obtain ⟨n, rfl⟩ := Int.eq_ofNat_of_zero_le h0
    by_cases ho : o = -1
    · subst ho; exact name_m1 n a w E T (by omega) h
    · obtain ⟨o, rfl⟩ := Int.eq_ofNat_of_zero_le (show 0 ≤ o by omega)
      exact name_yes n a o w E (by omega) (by omega) h

end Go.Proofs.YtdaeanjjmbibmaaDoor
