/- The contract of the reference's Primes. -/
import Derived.Test.YtgpgnfdbjljljaaDoorShaRBits
namespace Go.Proofs.YtgpgnfdbjljljaaDoor
open Go.RowKit
theorem info_u64 : (Tryd.prog.info? 48).map (fun i => (i.zero, i.size, i.bytes)) = some (some (.int .u64 0), 1, 8) := by kernel_rfl
namespace S
/-- A number of 64 bits as a value. -/
def longV (x : Nat) : Value := .int .u64 x
/-- The primes that are found among the numbers below n. -/
def pr : Nat → List Nat
  | 0 => []
  | n + 1 => if 2 ≤ n ∧ (pr n).all (fun p => n % p != 0) = true then pr n ++ [n] else pr n
theorem pr_all : pr 312 = [2, 3, 5, 7, 11, 13, 17, 19, 23, 29, 31, 37, 41, 43, 47, 53, 59, 61, 67, 71, 73, 79, 83, 89, 97, 101, 103, 107, 109, 113, 127, 131, 137, 139, 149, 151, 157, 163, 167, 173, 179, 181, 191, 193, 197, 199, 211, 223, 227, 229, 233, 239, 241, 251, 257, 263, 269, 271, 277, 281, 283, 293, 307, 311] := by decide +kernel
theorem pr_prefix (n : Nat) : ∀ k, pr n <+: pr (n + k)
  | 0 => List.prefix_refl _
  | k + 1 => by
    refine List.IsPrefix.trans (pr_prefix n k) ?_
    rw [← Nat.add_assoc, pr]
    split
    · exact List.prefix_append _ _
    · exact List.prefix_refl _
theorem pr_len : (pr 312).length = 64 := by rw [pr_all]; rfl
theorem pr_take {n : Nat} (h : n ≤ 312) : pr n = (pr 312).take (pr n).length := by
  have := pr_prefix n (312 - n)
  rw [show n + (312 - n) = 312 by omega] at this
  exact List.prefix_iff_eq_take.1 this
theorem pr_pos (n : Nat) : ∀ p ∈ pr n, 2 ≤ p ∧ p < n := by
  induction n with
  | zero => intro p hp; cases hp
  | succ n ih =>
    intro p hp
    rw [pr] at hp
    split at hp
    · rename_i h
      rcases List.mem_append.1 hp with hp | hp
      · have := ih p hp; omega
      · have : p = n := by simpa using hp
        omega
    · have := ih p hp; omega
theorem long_one (l : List Nat) : ∀ u ∈ l.map longV, u.oneCell' = true := by
  intro u hu
  obtain ⟨c, _, rfl⟩ := List.mem_map.1 hu
  rfl
theorem own_slice64 {w : World} {base n : Nat} {v : Value} {xs : List Value} (h : w.ownsRow base 48 1 v n xs) : ∃ A c, v = .slice A n c := by
  rcases h.2 with ⟨h1, h2⟩ | ⟨g, cap, cur, h1, _⟩
  · exact ⟨none, 0, by rw [h1, h2]⟩
  · exact ⟨_, _, h1⟩
end S
theorem push_long {ops : Array Oper} {rest : List Oper} {o : Oper} {a : Act} {Q : Exit → Act → World → Prop} (w w0 : World) (n : Nat) (hgd : o.guard = none) (s x : Operand)
    (ho : o.op = .call { callee := .builtin .append, args := #[s, x], argTypes := #[46, 46] })
    (B : Nat) (v : Value) (xs : List Nat) (hs : a.eval s = v) (hx : a.eval x = .slice (some ⟨w0.heap.size, 0, none⟩) 1 1) (hown : w0.ownsRow B 48 1 v xs.length (xs.map S.longV))
    (hB : B ≤ w.heap.size) (hbel : Below B w w0) (hl : xs.length ≤ 1000000)
    (h : ∀ v' w', w'.ownsRow B 48 1 v' (xs ++ [n]).length ((xs ++ [n]).map S.longV) → Below B w w' → wpList Tryd.prog ops Q rest (a.put o.dst v') w') :
    wpList Tryd.prog ops Q (o :: rest) a (w0.alloc (.cells #[.int .u64 n] 48)) := by
  obtain ⟨i0, hi, hz0, hz1, hz2⟩ := info_parts info_u64
  have hB0 : B ≤ w0.heap.size := Nat.le_trans hB hbel.size
  refine wpList_append_own _ hgd s x 46 ho B 48 i0 (.int .u64 0) 1 8 Tryd.underlying46 hi hz0 hz1 hz2 rfl (by decide) v _ _ hs (hown.alloc _) ⟨w0.heap.size, 0, none⟩ 1 1 [S.longV n] hx rfl ?_ ?_ ?_ ?_ ?_ ?_
  · intro j u hj
    match j, hj with
    | 0, hj => simp at hj; subst hj; simp [Addr.add, S.longV]
  · intro u hu; simp at hu; subst hu; rfl
  · unfold maxLen; omega
  · omega
  · simp; omega
  · intro v' w' hown' hg _
    refine h v' w' (by simpa using hown') ?_
    exact ((hbel.alloc hB0 _).grown hg (by simp; omega) (fun k hk => (hown.lt k hk).1))
theorem Primes_any (m : Nat) (hm : m ≤ 64) (w : World) :
    Calls Tryd.prog 26 #[.int .i64 m] w fun e w' => ∃ v, e = .returned v ∧ w'.ownsRow w.heap.size 48 1 v m (((S.pr 312).take m).map S.longV) ∧ Below w.heap.size w w' := by
  go_enter Tryd.func26, Tryd.ntmps26
  go_wp2_with fail
  go_loopw [3, 4] (fun v i wr => ∃ n : Nat, 2 ≤ n ∧ n ≤ 312 ∧ i = .int .u64 n ∧ (∃ A c, v = .slice A (S.pr n).length c) ∧ wr.ownsRow w.heap.size 48 1 v (S.pr n).length ((S.pr n).map S.longV) ∧ (S.pr n).length ≤ m ∧ Below w.heap.size w wr) (fun _ i _ => 400 - (intOf i).toNat)
  case atStart => exact ⟨2, by omega, by omega, rfl, ⟨none, 0, rfl⟩, World.ownsRow_nil w _ _ _, Nat.zero_le _, Below.refl _ _⟩
  case round =>
    obtain ⟨n, h2, hn, rfl, ⟨A, c, rfl⟩, hown, hle, hbel⟩ := hrel
    by_cases hlt : (S.pr n).length < m
    · have hn2 : n < 312 := by
        rcases Nat.lt_or_ge n 312 with h | h
        · exact h
        · have : n = 312 := by omega
          subst this
          have := S.pr_len
          omega
      obtain ⟨L, HL⟩ : ∃ L, Hid (L = S.pr n) := ⟨_, Lib.hid rfl⟩
      rw [← HL.out] at hown hle hlt
      rw [← HL.out]
      obtain ⟨N, HN⟩ : ∃ N, Hid (N = L.length) := ⟨_, Lib.hid rfl⟩
      rw [← HN.out] at hown hle hlt
      rw [← HN.out]
      have HP := Lib.hid (S.pr_pos n)
      rw [← HL.out] at HP
      go_wp2_with fail
      go_loopw [5, 6] (fun f i wz => ∃ k : Nat, k ≤ N ∧ i = .int .i64 k ∧ f = .bool ((L.take k).all fun p => n % p != 0) ∧ wz = wr) (fun _ i _ => 1000 - (intOf i).toNat)
      case atStart => exact ⟨0, Nat.zero_le _, rfl, rfl, rfl⟩
      case round =>
        obtain ⟨k, hk, rfl, rfl, rfl⟩ := hrel
        by_cases hkn : k < N
        · obtain ⟨g, hA⟩ : ∃ g, A = some ⟨g, 0, none⟩ := by
            rcases hown.2 with ⟨h1, _⟩ | ⟨g, cap, cur, h1, _⟩
            · injection h1 with e1 e2 e3
              omega
            · injection h1 with e1 e2 e3
              exact ⟨g, e1⟩
          subst hA
          have hkL : k < L.length := by rw [← HN.out]; exact hkn
          obtain ⟨x, X⟩ : ∃ x, Hid (x = L[k]) := ⟨_, Lib.hid rfl⟩
          have hx := (HP.out L[k] (List.getElem_mem hkL)).1
          have hc := hown.cells (g := g) rfl k (S.longV L[k]) (by rw [List.getElem?_map, List.getElem?_eq_getElem hkL]; rfl)
          have HT := Lib.hid (show (L.take (k + 1)).all (fun p => n % p != 0) = ((L.take k).all (fun p => n % p != 0) && (n % x != 0)) by rw [List.take_succ_eq_append_getElem hkL, List.all_append, X.out]; simp)
          rw [← X.out] at hx hc
          have hx0 : (x : Int) ≠ 0 := by omega
          have HOWN := Lib.hid hown
          unfold S.longV at hc
          rw [show (⟨g, 0, none⟩ : Addr).add k = ⟨g, k, none⟩ by unfold Addr.add; split <;> simp_all] at hc
          clear hown
          by_cases hd : n % x = 0
          · have hz : ((n : Int) % (x : Int) == 0) = true := by rw [beq_iff_eq]; omega
            go_wp2_with fail
            go_roundw
            case rel => first | exact ⟨k + 1, by omega, by go_num, by rw [HT.out]; simp [hd], by trivial⟩ | ((repeat apply Exists.intro); exact ⟨⟨k + 1, by omega, by go_num, by rw [HT.out]; simp [hd], by trivial⟩, rfl⟩)
            case measure => simp [intOf]; omega
          · have hz : ((n : Int) % (x : Int) == 0) = false := by rw [beq_eq_false_iff_ne]; omega
            go_wp2_with fail
            go_roundw
            case rel => first | exact ⟨k + 1, by omega, by go_num, by rw [HT.out]; simp [hd], by trivial⟩ | ((repeat apply Exists.intro); exact ⟨⟨k + 1, by omega, by go_num, by rw [HT.out]; simp [hd], by trivial⟩, rfl⟩)
            case measure => simp [intOf]; omega
        · obtain rfl : k = N := by omega
          have hT : L.take k = L := by rw [HN.out]; exact List.take_length
          rw [hT]
          by_cases hp : (L.all fun p => n % p != 0) = true
          · rw [hp]
            go_wp2_with (at_builtin; refine push_long w wr n rfl (.tmp 27) (.tmp 29) rfl w.heap.size _ L rfl rfl (by rw [← HN.out]; exact hown) (Nat.le_refl _) hbel (by rw [← HN.out]; omega) ?_; intro v1 w1 hown1 hb1)
            obtain ⟨A1, c1, rfl⟩ := S.own_slice64 hown1
            have hnx : S.pr (n + 1) = L ++ [n] := by rw [S.pr, ← HL.out, if_pos ⟨h2, hp⟩]
            have hlx : (L ++ [n]).length = k + 1 := by rw [List.length_append, ← HN.out]; rfl
            go_roundw
            case rel => first | exact ⟨n + 1, by omega, by omega, by go_num, ⟨A1, c1, by rw [hnx]⟩, by rw [hnx]; exact hown1, by rw [hnx, hlx]; omega, hb1⟩ | ((repeat apply Exists.intro); exact ⟨⟨n + 1, by omega, by omega, by go_num, ⟨A1, c1, by rw [hnx]⟩, by rw [hnx]; exact hown1, by rw [hnx, hlx]; omega, hb1⟩, rfl⟩)
            case measure => simp [intOf]; omega
          · have hp' : (L.all fun p => n % p != 0) = false := by simpa using hp
            rw [hp']
            go_wp2_with fail
            have hnx : S.pr (n + 1) = L := by rw [S.pr, ← HL.out, if_neg (by rintro ⟨_, h⟩; exact hp h)]
            go_roundw
            case rel => first | exact ⟨n + 1, by omega, by omega, by go_num, ⟨A, c, by rw [hnx, ← HN.out]⟩, by rw [hnx, ← HN.out]; exact hown, by rw [hnx, ← HN.out]; omega, hbel⟩ | ((repeat apply Exists.intro); exact ⟨⟨n + 1, by omega, by omega, by go_num, ⟨A, c, by rw [hnx, ← HN.out]⟩, by rw [hnx, ← HN.out]; exact hown, by rw [hnx, ← HN.out]; omega, hbel⟩, rfl⟩)
            case measure => simp [intOf]; omega
    · have hml : (S.pr n).length = m := by omega
      rw [hml] at hown
      rw [hml]
      have ht := S.pr_take hn
      rw [hml] at ht
      rw [ht] at hown
      go_wp2_with fail
      go_ret
      exact ⟨_, rfl, hown, hbel⟩
end Go.Proofs.YtgpgnfdbjljljaaDoor
