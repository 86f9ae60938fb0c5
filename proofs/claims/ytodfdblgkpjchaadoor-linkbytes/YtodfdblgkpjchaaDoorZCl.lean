/-
  strings.Clone, where crc's texts lie beside (they have it).
-/
import Derived.Test.YtodfdblgkpjchaaDoorZQClone
