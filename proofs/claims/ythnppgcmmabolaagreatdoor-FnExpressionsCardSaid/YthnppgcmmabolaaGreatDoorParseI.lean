/- ParseInt, the program's; and its law. -/
import Derived.Test.YthnppgcmmabolaaGreatDoorParse
namespace Go.Proofs.YthnppgcmmabolaaGreatDoor
set_option maxRecDepth 100000
open Go.ChangeShapes Go.WideShapes Go.ChangeAt Go.RowKit

theorem take_all (s : ByteArray) : s.data.toList.take s.size = s.data.toList := List.take_of_length_le (by simp)
theorem isd_mem {s : ByteArray} {k : Nat} (h : k < s.size) : s[k] ∈ s.data.toList := by
  have : s[k] = s.data.toList[k]'(by simpa using h) := by simp; rfl
  rw [this]; exact List.getElem_mem _

set_option maxHeartbeats 1000000 in
set_option maxRecDepth 100000 in
theorem implPI_any (s : ByteArray) (w : World) (hs : s.size ≤ 1048576) (ht : Tab w) :
    Calls Tryz.prog 60 #[.string s] w fun e w' => e = .returned (.tuple #[.int .i64 (pOut s.data.toList).1, .bool (pOut s.data.toList).2]) ∧ Since w w' := by
  have HCP := Lib.hid (fun W => Tryz.strings_CutPrefix s ⟨#[45]⟩ W)
  have HT : Hid (Lib.trimPrefix s.data.toList [45] = body s.data.toList) := trim_minus _
  have HH : Hid (Lib.hasPrefix s.data.toList [45] = isMinus s.data.toList) := has_minus _
  obtain ⟨B, hB⟩ : ∃ B : ByteArray, B = ⟨(body s.data.toList).toArray⟩ := ⟨_, rfl⟩
  have HB := Lib.hid hB
  have hBl : B.data.toList = body s.data.toList := by rw [hB]
  have HBL := Lib.hid hBl
  have HBS : Hid (B.size = (body s.data.toList).length) := by unfold Hid; rw [hB]; rfl
  clear hB hBl
  obtain ⟨mb, hmb⟩ : ∃ mb, mb = isMinus s.data.toList := ⟨_, rfl⟩
  have HMB := Lib.hid hmb
  clear hmb
  have HCP2 : Hid (∀ W, Calls Tryz.prog 57 #[.string s, .string ⟨#[45]⟩] W fun e w' => e = .returned (.tuple #[.string B, .bool mb]) ∧ W = w') := fun W => (HCP.out W).mono fun e w' ⟨he, hw⟩ => ⟨by
    rw [he, show (⟨#[45]⟩ : ByteArray).data.toList = [45] from rfl, HT.out, HH.out, HB.out, HMB.out], hw.symm⟩
  clear HCP HT HH
  have hBs : B.size ≤ 1048576 := by have h1 := HBS.out; have h2 := len_body s.data.toList; have h3 : s.data.toList.length = s.size := by simp
                                    omega
  by_cases h9 : B.size ≤ 9
  · go_enter Tryz.func60, Tryz.ntmps60
    go_wp2_with (go_at_call 57; refine (HCP2.out _).mono ?_; rintro e w' ⟨rfl, rfl⟩)
    go_loopw [6] (fun n wr => ∃ k : Nat, k ≤ B.size ∧ wr.heap[w.heap.size]? = some (.stringIter B k) ∧ n = .int .i64 ((dval (B.data.toList.take k) : Nat) : Int) ∧ Hid (∀ b ∈ B.data.toList.take k, isd b = true) ∧ Since w wr) (fun _ wr => B.size - wr.iterPos w.heap.size)
    case atStart => exact ⟨0, Nat.zero_le _, World.iter_heap w B 0, rfl, fun b hb => by simp at hb, (Since.refl w).alloc _⟩
    case round =>
      obtain ⟨k, hk, hit, rfl, HD, hsin⟩ := hrel
      have hb1 := dval_take B k (by omega)
      by_cases hlt : k < B.size
      · by_cases ha : B[k].toNat < 128
        · have hnx : ∀ ty, (Instr.next (.pointer (some ⟨w.heap.size, 0, none⟩)) true ty).run Tryz.prog wr = _ := fun ty => Lib.run_next_ascii_at wr w.heap.size B k ty hit hlt ha
          have HIT0 := Lib.hid hit
          have HIT1 := Lib.hid (Lib.iterAt_heap wr w.heap.size B k (k + 1) hit)
          clear hit
          by_cases h48 : 48 ≤ B[k].toNat
          · by_cases h57 : B[k].toNat ≤ 57
            · have hd := isd_yes h48 h57
              have HV := Lib.hid (dval_next B k hlt hd)
              have HD2 : Hid (∀ b ∈ B.data.toList.take (k + 1), isd b = true) := fun b hb => by
                rw [take_snoc B k hlt] at hb
                rcases List.mem_append.mp hb with hb | hb
                · exact HD.out b hb
                · rw [List.mem_singleton.mp hb]; exact hd
              clear hd
              go_wp2
              go_roundw
              case rel => exact ⟨k + 1, by omega, HIT1.out, by rw [HV.out]; go_num, HD2, hsin.iterAt (Nat.le_refl _) B _⟩
              case measure => rw [iterPos_of HIT1.out, iterPos_of HIT0.out]; omega
            · have HA : Hid (¬ Acc s.data.toList) := fun h => by
                have := (acc_digits h).1 B[k] (by rw [← HBL.out]; exact isd_mem hlt)
                rw [isd_no (by omega)] at this; cases this
              have h57' : 57 < B[k].toNat := by omega
              go_wp2
              go_ret2
              exact ⟨ret_p (pOut_out HA.out), hsin.iterAt (Nat.le_refl _) B _⟩
          · have HA : Hid (¬ Acc s.data.toList) := fun h => by
              have := (acc_digits h).1 B[k] (by rw [← HBL.out]; exact isd_mem hlt)
              rw [isd_no (by omega)] at this; cases this
            have h48' : B[k].toNat < 48 := by omega
            go_wp2
            go_ret2
            exact ⟨ret_p (pOut_out HA.out), hsin.iterAt (Nat.le_refl _) B _⟩
        · have hnx : ∀ ty, (Instr.next (.pointer (some ⟨w.heap.size, 0, none⟩)) true ty).run Tryz.prog wr = _ := fun ty => Lib.run_next_any_at wr w.heap.size B k ty hit hlt
          have hdh := (decode_high B k hlt (by omega)).1
          have hdl := decode_le B k
          have HA : Hid (¬ Acc s.data.toList) := fun h => by
            have := (acc_digits h).1 B[k] (by rw [← HBL.out]; exact isd_mem hlt)
            rw [isd_no (by omega)] at this; cases this
          go_wp2
          go_ret2
          exact ⟨ret_p (pOut_out HA.out), hsin.iterAt (Nat.le_refl _) B _⟩
      · have hnx : ∀ ty, (Instr.next (.pointer (some ⟨w.heap.size, 0, none⟩)) true ty).run Tryz.prog wr = _ := fun ty => Lib.run_next_end_at wr w.heap.size B k ty hit hlt
        obtain rfl : k = B.size := by omega
        have hdv : dval (B.data.toList.take B.size) = dval s.data.toList := by rw [take_all, HBL.out, dval_body]
        have HDA : Hid (∀ b ∈ body s.data.toList, isd b = true) := by
          have := HD.out
          rw [take_all, HBL.out] at this; exact this
        have HB9 : Hid ((body s.data.toList).length ≤ 9) := by have := HBS.out; unfold Hid; omega
        rw [hdv] at hb1 ⊢
        clear hdv hlt hit HD
        cases hmc : mb with
        | true =>
          have hsv : sval s.data.toList = -((dval s.data.toList : Nat) : Int) := by unfold sval; rw [← HMB.out, hmc]; rfl
          have HC := Lib.hid (fun W hw => implFI_any (-((dval s.data.toList : Nat) : Int)) W (by omega) (by omega) (ht.since hw))
          by_cases hi : Lib.itoa (sval s.data.toList) = s.data.toList
          · have HA : Hid (Acc s.data.toList) := acc_of HB9.out HDA.out hi
            have hcmp : (Lib.itoa (-((dval s.data.toList : Nat) : Int)) == s.toList) = true := by rw [ByteArray.toList_eq, ← hsv, hi]; simp
            have HSV := Lib.hid hsv
            clear hsv hi hmc HMB
            go_wp2_with (go_at_call 38; refine (HC.out _ hsin).mono ?_; rintro e w1 ⟨rfl, hs1⟩)
            go_ret2
            exact ⟨ret_p (by rw [pOut_in HA.out, HSV.out]), hsin.trans hs1⟩
          · have HA : Hid (¬ Acc s.data.toList) := fun h => hi h.2.2
            have hcmp : (Lib.itoa (-((dval s.data.toList : Nat) : Int)) == s.toList) = false := by rw [ByteArray.toList_eq, ← hsv]; simpa using hi
            clear hsv hi hmc HMB
            go_wp2_with (go_at_call 38; refine (HC.out _ hsin).mono ?_; rintro e w1 ⟨rfl, hs1⟩)
            go_ret2
            exact ⟨ret_p (pOut_out HA.out), hsin.trans hs1⟩
        | false =>
          have hsv : sval s.data.toList = ((dval s.data.toList : Nat) : Int) := by unfold sval; rw [← HMB.out, hmc]; rfl
          have HC := Lib.hid (fun W hw => implFI_any (((dval s.data.toList : Nat) : Int)) W (by omega) (by omega) (ht.since hw))
          by_cases hi : Lib.itoa (sval s.data.toList) = s.data.toList
          · have HA : Hid (Acc s.data.toList) := acc_of HB9.out HDA.out hi
            have hcmp : (Lib.itoa ((dval s.data.toList : Nat) : Int) == s.toList) = true := by rw [ByteArray.toList_eq, ← hsv, hi]; simp
            have HSV := Lib.hid hsv
            clear hsv hi hmc HMB
            go_wp2_with (go_at_call 38; refine (HC.out _ hsin).mono ?_; rintro e w1 ⟨rfl, hs1⟩)
            go_ret2
            exact ⟨ret_p (by rw [pOut_in HA.out, HSV.out]), hsin.trans hs1⟩
          · have HA : Hid (¬ Acc s.data.toList) := fun h => hi h.2.2
            have hcmp : (Lib.itoa ((dval s.data.toList : Nat) : Int) == s.toList) = false := by rw [ByteArray.toList_eq, ← hsv]; simpa using hi
            clear hsv hi hmc HMB
            go_wp2_with (go_at_call 38; refine (HC.out _ hsin).mono ?_; rintro e w1 ⟨rfl, hs1⟩)
            go_ret2
            exact ⟨ret_p (pOut_out HA.out), hsin.trans hs1⟩
  · have HA : Hid (¬ Acc s.data.toList) := fun h => by have := (acc_digits h).2; have := HBS.out; omega
    go_enter Tryz.func60, Tryz.ntmps60
    go_wp2_with (go_at_call 57; refine (HCP2.out _).mono ?_; rintro e w' ⟨rfl, rfl⟩)
    go_ret2
    exact ⟨ret_p (pOut_out HA.out), Since.refl _⟩

end Go.Proofs.YthnppgcmmabolaaGreatDoor
