/- The name that the cards import. -/
import Derived.Test.YtcimhljnboeobaaDoorQReadI
